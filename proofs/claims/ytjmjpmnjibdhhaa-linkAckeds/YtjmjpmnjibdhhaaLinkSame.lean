/-
  Contracts of the law's own senders, sameSender, samePackets: copies, and what reads alike.
-/
import Derived.Test.YtjmjpmnjibdhhaaLinkBehind
import Derived.Test.YtjmjpmnjibdhhaaMailSame
namespace Go.Proofs.Ytjmjpmnjibdhhaa
set_option maxRecDepth 100000
open Go.ChangeShapes Go.WideShapes Go.ChangeAt Go.RowKit Go.Sort

set_option maxHeartbeats 1000000 in
set_option maxRecDepth 100000 in
theorem senders_any (e b : Int) (v : Value) (l : List Ml) (w : World) (h : MlR w v l) (hl : l.length * 16 ≤ 140737488351232) :
    Calls Try.prog 12 #[.agg #[.int .i64 e, .int .i64 b, v]] w (SndO w e b l) := by
  have HR : Hid (MlR w v l) := h
  obtain ⟨a, cap, rfl⟩ := h.shape
  have HE : Hid (∀ v w', w'.ownsRow w.heap.size 33 2 v l.length (l.flatMap encM) → RowKit.Below w.heap.size w w' → SndO w e b l (.returned (.agg #[.int .i64 e, .int .i64 b, v])) w') := fun v w' h1 h2 => ⟨_, rfl, h1, h2⟩
  generalize SndO w e b l = P at *
  clear h
  go_enter Try.func12, Try.ntmps12
  go_upto_region 1 with fail
  obtain ⟨Q0, P0, B0, s1, s2⟩ := boxes2 w #[.int .i64 e, .int .i64 b, .slice a l.length cap] #[.int .i64 0, .int .i64 0, .slice none 0 0] 24 24 _ rfl
  generalize (w.alloc (.cells #[.int .i64 e, .int .i64 b, .slice a l.length cap] 24)).alloc (.cells #[.int .i64 0, .int .i64 0, .slice none 0 0] 24) = W0 at *
  have Q1 : Hid (BX 24 W0 w.heap.size #[.int .i64 e, .int .i64 b, .slice a l.length cap]) := Q0
  have T1 : Hid (BX 24 W0 (w.heap.size + 1) #[.int .i64 0, .int .i64 0, .slice none 0 0]) := P0
  have BH : Hid (RowKit.Below w.heap.size w W0) := B0
  obtain ⟨q0, q1, q2, _⟩ := Q0.all3
  clear Q0 P0 B0
  go_wp2_with fail
  refine (mails_any _ l _ (HR.out.below BH.out (Nat.le_refl _)) hl).mono ?_
  rintro E w1 ⟨v1, rfl, ho1, hb1⟩
  have Q2 : Hid (BX 24 w1 w.heap.size #[.int .i64 e, .int .i64 b, .slice a l.length cap]) := Q1.out.below hb1 (by omega)
  obtain ⟨ya, yc, rfl⟩ := (MlR.ownd ho1).shape
  obtain ⟨q0, q1, q2, q3, q4, q5⟩ := Q2.out.all3
  have A5 : Hid (BX 24 (w1.setCell ⟨w.heap.size, 2, none⟩ (.slice ya l.length yc)) w.heap.size #[.int .i64 e, .int .i64 b, .slice ya l.length yc]) := Q2.out.set 2 _
  have O5 : Hid ((w1.setCell ⟨w.heap.size, 2, none⟩ (.slice ya l.length yc)).ownsRow W0.heap.size 33 2 (.slice ya l.length yc) l.length (l.flatMap encM)) := Q2.out.own ho1 (by decide)
  have B5 : Hid (RowKit.Below w.heap.size w (w1.setCell ⟨w.heap.size, 2, none⟩ (.slice ya l.length yc))) := (BH.out.trans (hb1.mono (by omega))).setCell (p := ⟨w.heap.size, 2, none⟩) (Nat.le_refl _) _
  have Z5 : Hid (BX 24 (w1.setCell ⟨w.heap.size, 2, none⟩ (.slice ya l.length yc)) (w.heap.size + 1) #[.int .i64 0, .int .i64 0, .slice none 0 0]) := (T1.out.below hb1 (by omega)).other (by omega)
  clear ho1 hb1
  go_upto_region 2 with fail
  clear q0 q1 q2 q3 q4 q5 Q2
  generalize w1.setCell ⟨w.heap.size, 2, none⟩ (.slice ya l.length yc) = V at *
  obtain ⟨a0, a1, a2, _⟩ := A5.out.all3
  obtain ⟨z0, z1, z2, z3, z4, z5⟩ := Z5.out.all3
  have HX : Hid (P (.returned (.agg #[.int .i64 e, .int .i64 b, .slice ya l.length yc])) (put3 V (w.heap.size + 1) (.int .i64 e) (.int .i64 b) (.slice ya l.length yc))) := HE.out _ _ (own_lower (Z5.out.own3 O5.out (by decide)) (by omega)) (below_put3 B5.out (by omega) _ _ _)
  have RX : Hid (BX 24 (put3 V (w.heap.size + 1) (.int .i64 e) (.int .i64 b) (.slice ya l.length yc)) (w.heap.size + 1) #[.int .i64 e, .int .i64 b, .slice ya l.length yc]) := Z5.out.put3 _ _ _
  go_wp2_with fail
  obtain ⟨r0, r1, r2, _⟩ := RX.out.all3
  unfold put3 at r0 r1 r2
  exact bodyPost_ret (v := .agg #[.int .i64 e, .int .i64 b, .slice ya l.length yc]) (by simp [results, Try.results12, go_sem, r0, r1, r2]) rfl HX.out

set_option maxHeartbeats 1000000 in
set_option maxRecDepth 100000 in
theorem sameSender_yes (e b : Int) (va vb : Value) (l : List Ml) (w : World) (ha : MlR w va l) (hb : MlR w vb l) :
    Calls Try.prog 11 #[.agg #[.int .i64 e, .int .i64 b, va], .agg #[.int .i64 e, .int .i64 b, vb]] w fun E w' => E = .returned (.bool true) ∧ RowKit.Below w.heap.size w w' := by
  have HA : Hid (MlR w va l) := ha
  have HB : Hid (MlR w vb l) := hb
  obtain ⟨a, ca, rfl⟩ := ha.shape
  obtain ⟨c, cc, rfl⟩ := hb.shape
  have he : (e == e) = true := by simp
  have hbb : (b == b) = true := by simp
  clear ha hb
  go_enter Try.func11, Try.ntmps11
  go_upto_region 1 with fail
  obtain ⟨Q0, P0, B0, s1, s2⟩ := boxes2 w #[.int .i64 e, .int .i64 b, .slice a l.length ca] #[.int .i64 e, .int .i64 b, .slice c l.length cc] 24 24 _ rfl
  generalize (w.alloc (.cells #[.int .i64 e, .int .i64 b, .slice a l.length ca] 24)).alloc (.cells #[.int .i64 e, .int .i64 b, .slice c l.length cc] 24) = W0 at *
  have BH : Hid (RowKit.Below w.heap.size w W0) := B0
  obtain ⟨q0, q1, q2, _⟩ := Q0.all3
  obtain ⟨p0, p1, p2, _⟩ := P0.all3
  clear Q0 P0 B0
  go_wp2_with fail
  refine (sameMails_yes _ _ l _ (HA.out.below BH.out (Nat.le_refl _)) (HB.out.below BH.out (Nat.le_refl _))).mono ?_
  rintro E w1 ⟨rfl, hb1⟩
  have B1 : Hid (RowKit.Below w.heap.size w w1) := BH.out.trans (hb1.mono (by omega))
  clear hb1 q0 q1 q2 p0 p1 p2
  go_wp2_with fail
  go_ret
  exact ⟨rfl, B1.out⟩

set_option maxHeartbeats 1000000 in
set_option maxRecDepth 100000 in
theorem samePackets_yes (va vb : Value) (es : List Pk) (w : World) (ha : PkR w va es) (hb : PkR w vb es) :
    Calls Try.prog 17 #[va, vb] w fun e w' => e = .returned (.bool true) ∧ RowKit.Below w.heap.size w w' := by
  have HA : Hid (PkR w va es) := ha
  have HB : Hid (PkR w vb es) := hb
  obtain ⟨a, ca, rfl, hca, hma, _, _⟩ := ha
  obtain ⟨b, cb, rfl, hcb, hmb, _, _⟩ := hb
  unfold maxLen at hma hmb
  have hll : ((es.length : Int) != (es.length : Int)) = false := by simp
  go_enter Try.func17, Try.ntmps17
  go_wp2_with fail
  go_loopw [5] (fun i wr => ∃ k : Nat, k ≤ es.length ∧ i = .int .i64 k ∧ RowKit.Below w.heap.size w wr) (fun i _ => es.length - (intOf i).toNat)
  case atStart => exact ⟨0, by omega, rfl, Below.refl _ _⟩
  case round =>
    obtain ⟨k, hk, rfl, hbel⟩ := hrel
    have HBL : Hid (RowKit.Below w.heap.size w wr) := hbel
    clear hbel
    by_cases hlt : k < es.length
    · obtain ⟨xa, oa, cap', e1, _, _, la, hva⟩ := PkR.at (HA.out.below HBL.out (Nat.le_refl _)) (by omega)
      injection e1 with e1 _ e3
      subst e1 e3
      obtain ⟨xb, ob, cap', e1, _, _, lb, hvb⟩ := PkR.at (HB.out.below HBL.out (Nat.le_refl _)) (by omega)
      injection e1 with e1 _ e3
      subst e1 e3
      obtain ⟨x, hx⟩ := getX hlt
      have p0 : (0 : Int) ≤ (k : Int) := by omega
      have p1 : (k : Int) < (es.length : Int) := by omega
      obtain ⟨c1, c2, c3, c4⟩ := hva k x hx
      obtain ⟨d1, d2, d3, d4⟩ := hvb k x hx
      obtain ⟨x1, x2, x3, x4⟩ := x
      simp only at c1 c2 c3 c4 d1 d2 d3 d4
      clear hva hvb hx
      go_wp2_with fail
      go_quiet (fail)
      go_wp2_with fail
      go_roundw
      case rel => exact ⟨k + 1, by omega, by go_num, below_drewN HBL.out _⟩
      case measure => simp [intOf]; omega
    · go_wp2_with fail
      go_ret
      exact ⟨rfl, HBL.out⟩
end Go.Proofs.Ytjmjpmnjibdhhaa
