/-
  Contract of the keeping laws' own sameState, of what reads alike.
-/
import Derived.Test.YtbmkgnlfccigpaaMayMath
import Derived.Test.YtbmkgnlfccigpaaStaMem
import Derived.Test.YtbmkgnlfccigpaaRoundsStepsPartA
import Derived.Test.YtbmkgnlfccigpaaRegionCall
import Derived.Shelf.Abstract
import Derived.Deep.CutRange

namespace Go.Proofs.Ytbmkgnlfccigpaa
set_option maxRecDepth 100000
open Go.ChangeShapes Go.WideShapes Go.ChangeAt Go.RowKit

set_option maxHeartbeats 2000000 in
set_option maxRecDepth 100000 in
theorem sameStateK_yes (T : StS) (va vb vma vmb : Value) (w : World) (ha : MlR w va T.vals) (hb : MlR w vb T.vals) (hma : LiR w vma T.mail) (hmb : LiR w vmb T.mail) :
    Calls Try.prog 23 #[.agg #[.int .i64 T.step, .int .i64 T.phase, .bool T.fresh, .bool T.done, va, vma], .agg #[.int .i64 T.step, .int .i64 T.phase, .bool T.fresh, .bool T.done, vb, vmb]] w fun e w' => e = .returned (.bool true) ∧ Below w.heap.size w w' := by
  have HA : Hid (MlR w va T.vals) := ha
  have HB : Hid (MlR w vb T.vals) := hb
  have HMA : Hid (LiR w vma T.mail) := hma
  have HMB : Hid (LiR w vmb T.mail) := hmb
  obtain ⟨a, ca, rfl, hca, hcm, _, _⟩ := ha
  obtain ⟨b, cb, rfl, hcb, hdm, _, _⟩ := hb
  obtain ⟨ma, mca, rfl, hmca, hmcm, _⟩ := hma
  obtain ⟨mb, mcb, rfl, hmcb, hmdm, _⟩ := hmb
  unfold maxLen at hcm hdm hmcm hmdm
  obtain ⟨W0, hW0⟩ : ∃ W0, W0 = (w.alloc (.cells #[.int .i64 T.step, .int .i64 T.phase, .bool T.fresh, .bool T.done, .slice a T.vals.length ca, .slice ma T.mail.length mca] 30)).alloc (.cells #[.int .i64 T.step, .int .i64 T.phase, .bool T.fresh, .bool T.done, .slice b T.vals.length cb, .slice mb T.mail.length mcb] 30) := ⟨_, rfl⟩
  obtain ⟨Q0, T0, B0, s1, s2⟩ := boxes2 w #[.int .i64 T.step, .int .i64 T.phase, .bool T.fresh, .bool T.done, .slice a T.vals.length ca, .slice ma T.mail.length mca] #[.int .i64 T.step, .int .i64 T.phase, .bool T.fresh, .bool T.done, .slice b T.vals.length cb, .slice mb T.mail.length mcb] 30 30 W0 hW0
  have BH : Hid (Below w.heap.size w W0) := B0
  have HK : Hid (∀ X, Below W0.heap.size W0 X → BX 30 X w.heap.size #[.int .i64 T.step, .int .i64 T.phase, .bool T.fresh, .bool T.done, .slice a T.vals.length ca, .slice ma T.mail.length mca] ∧ BX 30 X (w.heap.size + 1) #[.int .i64 T.step, .int .i64 T.phase, .bool T.fresh, .bool T.done, .slice b T.vals.length cb, .slice mb T.mail.length mcb] ∧ Below w.heap.size w X) := fun X hX => ⟨Q0.below hX (by omega), T0.below hX (by omega), BH.out.trans (hX.mono (by omega))⟩
  have HVX : Hid (∀ X, Below W0.heap.size W0 X → LiR X (.slice ma T.mail.length mca) T.mail ∧ LiR X (.slice mb T.mail.length mcb) T.mail) := fun X hX => ⟨HMA.out.below (HK.out _ hX).2.2 (Nat.le_refl _), HMB.out.below (HK.out _ hX).2.2 (Nat.le_refl _)⟩
  have HVY : Hid (∀ X, Below W0.heap.size W0 X → MlR X (.slice a T.vals.length ca) T.vals ∧ MlR X (.slice b T.vals.length cb) T.vals) := fun X hX => ⟨HA.out.below (HK.out _ hX).2.2 (Nat.le_refl _), HB.out.below (HK.out _ hX).2.2 (Nat.le_refl _)⟩
  have A0 : Hid (Below W0.heap.size W0 W0) := Below.refl _ _
  obtain ⟨⟨q0, q1, q2, q3, q4, q5⟩, _⟩ := Q0.all6
  obtain ⟨⟨p0, p1, p2, p3, p4, p5⟩, _⟩ := T0.all6
  have t0 : (T.step != T.step) = false := by simp
  have t1 : (T.phase != T.phase) = false := by simp
  have t2 : (T.fresh != T.fresh) = false := by simp
  have t3 : (T.done != T.done) = false := by simp
  have t4 : ((T.vals.length : Int) != (T.vals.length : Int)) = false := by simp
  have t5 : ((T.mail.length : Int) != (T.mail.length : Int)) = false := by simp
  clear Q0 T0 B0
  go_enter Try.func23, Try.ntmps23
  go_upto_region 1 with fail
  rw [← hW0]
  clear hW0
  go_wp2_with fail
  clear q0 q1 q2 q3 q4 q5 p0 p1 p2 p3 p4 p5
  go_loopw [5] (fun i wr => ∃ k : Nat, k ≤ T.vals.length ∧ i = .int .i64 k ∧ Below W0.heap.size W0 wr) (fun i _ => T.vals.length - (intOf i).toNat)
  case atStart => exact ⟨0, by omega, rfl, A0.out⟩
  case round =>
    obtain ⟨k, hk, rfl, hbel⟩ := hrel
    have AB : Hid (Below W0.heap.size W0 wr) := hbel
    obtain ⟨QA, QB, hbw⟩ := HK.out _ hbel
    obtain ⟨⟨q0, q1, q2, q3, q4, q5⟩, _⟩ := QA.all6
    obtain ⟨⟨p0, p1, p2, p3, p4, p5⟩, _⟩ := QB.all6
    clear hbel QA QB hbw
    by_cases hlt : k < T.vals.length
    · obtain ⟨xa, oa, cap', e1, la, hva⟩ := MlR.read (HVY.out _ AB.out).1 (by omega)
      injection e1 with e1 _ e3
      subst e1 e3
      obtain ⟨xb, ob, cap', e1, lb, hvb⟩ := MlR.read (HVY.out _ AB.out).2 (by omega)
      injection e1 with e1 _ e3
      subst e1 e3
      obtain ⟨x, hx⟩ := getX hlt
      have z0 : (0 : Int) ≤ (k : Int) := by omega
      have z1 : (k : Int) < (T.vals.length : Int) := by omega
      obtain ⟨c1, c2⟩ := hva k x hx
      obtain ⟨d1, d2⟩ := hvb k x hx
      obtain ⟨x1, x2⟩ := x
      simp only at c1 c2 d1 d2
      clear hva hvb hx
      go_wp2_with fail
      go_quiet (fail)
      go_wp2_with fail
      go_roundw
      case rel => exact ⟨k + 1, by omega, by go_num, below_drewN AB.out _⟩
      case measure => simp [intOf]; omega
    · obtain ⟨V1, rfl⟩ : ∃ V, V = wr := ⟨wr, rfl⟩
      have A1 : Hid (Below W0.heap.size W0 V1) := AB.out
      clear AB
      go_wp2_with fail
      clear q0 q1 q2 q3 q4 q5 p0 p1 p2 p3 p4 p5
      go_loopw [6] (fun i wr => ∃ k : Nat, k ≤ T.mail.length ∧ i = .int .i64 k ∧ Below W0.heap.size W0 wr) (fun i _ => T.mail.length - (intOf i).toNat)
      case atStart => exact ⟨0, by omega, rfl, A1.out⟩
      case round =>
        obtain ⟨k, hk, rfl, hbel⟩ := hrel
        have AB : Hid (Below W0.heap.size W0 wr) := hbel
        have hsr := hbel.size
        obtain ⟨QA, QB, hbw⟩ := HK.out _ hbel
        have BW : Hid (Below w.heap.size w wr) := hbw
        obtain ⟨⟨q0, q1, q2, q3, q4, q5⟩, _⟩ := QA.all6
        obtain ⟨⟨p0, p1, p2, p3, p4, p5⟩, _⟩ := QB.all6
        clear hbel QA QB hbw
        by_cases hlt : k < T.mail.length
        · obtain ⟨xa, oa, cap', e1, lta, _, _, hva⟩ := (HVX.out _ AB.out).1.at (by omega)
          injection e1 with e1 _ e3
          subst e1 e3
          obtain ⟨xb, ob, cap', e1, ltb, _, _, hvb⟩ := (HVX.out _ AB.out).2.at (by omega)
          injection e1 with e1 _ e3
          subst e1 e3
          obtain ⟨l, hl⟩ := getX hlt
          obtain ⟨u, hu, hur⟩ := hva k l hl
          obtain ⟨v, hv, hvr⟩ := hvb k l hl
          have UR : Hid (InR wr u l ∧ InR wr v l) := ⟨hur, hvr⟩
          obtain ⟨ua, uca, rfl⟩ := hur.shape
          obtain ⟨ub, ucb, rfl⟩ := hvr.shape
          have CS : Hid (∀ X, Below wr.heap.size wr X → Calls Try.prog 19 #[.slice ua l.length uca, .slice ub l.length ucb] X fun e w' => ∃ v, e = .returned v ∧ (v = .bool true ∧ Below X.heap.size X w')) := fun X hX => (sameIntsK_yes _ _ l X (UR.out.1.below hX (Nat.le_refl _)) (UR.out.2.below hX (Nat.le_refl _))).mono fun e w' h => ⟨_, h.1, rfl, h.2⟩
          have KEEP : Hid (∀ V, Below wr.heap.size wr V → (V.cell? ⟨w.heap.size, 5, none⟩ = some (.slice (some ⟨xa, oa, none⟩) T.mail.length mca) ∧ V.cell? ⟨w.heap.size + 1, 5, none⟩ = some (.slice (some ⟨xb, ob, none⟩) T.mail.length mcb) ∧ V.cell? ⟨xa, oa + k, none⟩ = some (.slice ua l.length uca) ∧ V.cell? ⟨xb, ob + k, none⟩ = some (.slice ub l.length ucb))) := fun V hV => by
            obtain ⟨QA, QB, _⟩ := HK.out _ (AB.out.trans (hV.mono hsr))
            exact ⟨QA.all6.1.2.2.2.2.2, QB.all6.1.2.2.2.2.2, (hV.cell (p := ⟨xa, oa + k, none⟩) lta).trans hu, (hV.cell (p := ⟨xb, ob + k, none⟩) ltb).trans hv⟩
          have HS0 : Hid (wr.drew.cell? ⟨w.heap.size, 5, none⟩ = some (.slice (some ⟨xa, oa, none⟩) T.mail.length mca) ∧ wr.drew.cell? ⟨w.heap.size + 1, 5, none⟩ = some (.slice (some ⟨xb, ob, none⟩) T.mail.length mcb) ∧ wr.drew.cell? ⟨xa, oa + k, none⟩ = some (.slice ua l.length uca) ∧ wr.drew.cell? ⟨xb, ob + k, none⟩ = some (.slice ub l.length ucb)) := KEEP.out wr.drew (Below.refl _ _).drew
          have es : ∀ args w, (callFunc 19 args).run Try.prog w = .ok (.enter 19 args) w := enters_of Try.func19 (by kernel_rfl) rfl
          have z0 : (0 : Int) ≤ (k : Int) := by omega
          have z1 : (k : Int) < (T.mail.length : Int) := by omega
          clear hva hvb hl hu hv hur hvr
          go_upto_region 11 with fail
          clear q0 q1 q2 q3 q4 q5 p0 p1 p2 p3 p4 p5
          refine wp_region_held (S := fun V => (V.cell? ⟨w.heap.size, 5, none⟩ = some (.slice (some ⟨xa, oa, none⟩) T.mail.length mca) ∧ V.cell? ⟨w.heap.size + 1, 5, none⟩ = some (.slice (some ⟨xb, ob, none⟩) T.mail.length mcb) ∧ V.cell? ⟨xa, oa + k, none⟩ = some (.slice ua l.length uca) ∧ V.cell? ⟨xb, ob + k, none⟩ = some (.slice ub l.length ucb))) (by kernel_rfl) ?_
          simp only [List.size_toArray, List.length_cons, List.length_nil, Nat.reduceAdd]
          refine takeH (i := 0) (v := .pointer (some ⟨w.heap.size, 5, none⟩)) (d := 76) rfl rfl (by kernel_rfl) (by kernel_rfl) (by kernel_rfl) (fun _ _ _ h => h) (by rfl) (fun V hV => by obtain ⟨v1, v2, v3, v4⟩ := hV; go_simp) HS0.out ?_
          simp only [Act.put, List.setIfInBounds_toArray, List.set_cons_zero, List.set_cons_succ]
          refine takeH (i := 1) (v := .slice (some ⟨xa, oa, none⟩) T.mail.length mca) (d := 77) rfl rfl (by kernel_rfl) (by kernel_rfl) (by kernel_rfl) (fun _ _ _ h => h) (by rfl) (fun V hV => by obtain ⟨v1, v2, v3, v4⟩ := hV; go_simp) HS0.out ?_
          simp only [Act.put, List.setIfInBounds_toArray, List.set_cons_zero, List.set_cons_succ]
          refine takeH (i := 2) (v := .int .i64 (k : Int)) (d := 78) rfl rfl (by kernel_rfl) (by kernel_rfl) (by kernel_rfl) (fun _ _ _ h => h) (by rfl) (fun V hV => by obtain ⟨v1, v2, v3, v4⟩ := hV; go_simp) HS0.out ?_
          simp only [Act.put, List.setIfInBounds_toArray, List.set_cons_zero, List.set_cons_succ]
          refine takeH (i := 3) (v := .pointer (some ⟨xa, oa + k, none⟩)) (d := 79) rfl rfl (by kernel_rfl) (by kernel_rfl) (by kernel_rfl) (fun _ _ _ h => h) (by rfl) (fun V hV => by obtain ⟨v1, v2, v3, v4⟩ := hV; go_simp) HS0.out ?_
          simp only [Act.put, List.setIfInBounds_toArray, List.set_cons_zero, List.set_cons_succ]
          refine takeH (i := 4) (v := .slice ua l.length uca) (d := 80) rfl rfl (by kernel_rfl) (by kernel_rfl) (by kernel_rfl) (fun _ _ _ h => h) (by rfl) (fun V hV => by obtain ⟨v1, v2, v3, v4⟩ := hV; go_simp) HS0.out ?_
          simp only [Act.put, List.setIfInBounds_toArray, List.set_cons_zero, List.set_cons_succ]
          refine takeH (i := 5) (v := .pointer (some ⟨w.heap.size + 1, 5, none⟩)) (d := 81) rfl rfl (by kernel_rfl) (by kernel_rfl) (by kernel_rfl) (fun _ _ _ h => h) (by rfl) (fun V hV => by obtain ⟨v1, v2, v3, v4⟩ := hV; go_simp) HS0.out ?_
          simp only [Act.put, List.setIfInBounds_toArray, List.set_cons_zero, List.set_cons_succ]
          refine takeH (i := 6) (v := .slice (some ⟨xb, ob, none⟩) T.mail.length mcb) (d := 82) rfl rfl (by kernel_rfl) (by kernel_rfl) (by kernel_rfl) (fun _ _ _ h => h) (by rfl) (fun V hV => by obtain ⟨v1, v2, v3, v4⟩ := hV; go_simp) HS0.out ?_
          simp only [Act.put, List.setIfInBounds_toArray, List.set_cons_zero, List.set_cons_succ]
          refine takeH (i := 7) (v := .int .i64 (k : Int)) (d := 83) rfl rfl (by kernel_rfl) (by kernel_rfl) (by kernel_rfl) (fun _ _ _ h => h) (by rfl) (fun V hV => by obtain ⟨v1, v2, v3, v4⟩ := hV; go_simp) HS0.out ?_
          simp only [Act.put, List.setIfInBounds_toArray, List.set_cons_zero, List.set_cons_succ]
          refine takeH (i := 8) (v := .pointer (some ⟨xb, ob + k, none⟩)) (d := 84) rfl rfl (by kernel_rfl) (by kernel_rfl) (by kernel_rfl) (fun _ _ _ h => h) (by rfl) (fun V hV => by obtain ⟨v1, v2, v3, v4⟩ := hV; go_simp) HS0.out ?_
          simp only [Act.put, List.setIfInBounds_toArray, List.set_cons_zero, List.set_cons_succ]
          refine takeH (i := 9) (v := .slice ub l.length ucb) (d := 85) rfl rfl (by kernel_rfl) (by kernel_rfl) (by kernel_rfl) (fun _ _ _ h => h) (by rfl) (fun V hV => by obtain ⟨v1, v2, v3, v4⟩ := hV; go_simp) HS0.out ?_
          simp only [Act.put, List.setIfInBounds_toArray, List.set_cons_zero, List.set_cons_succ]
          refine oneH (i := 10) rfl (by kernel_rfl) rfl (call_gets (d := 86) (f := 19) (xs := #[.tmp 80, .tmp 85]) (ats := #[43, 43]) rfl rfl es (vs := #[.slice ua l.length uca, .slice ub l.length ucb]) (by simp [Act.eval]) (CS.out wr.drew (Below.refl _ _).drew) ?_)
          rintro vr w4 ⟨rfl, hb4⟩
          have b4 : Below wr.heap.size wr w4 := (Below.refl _ _).drew.trans hb4
          have HS4 : Hid (w4.cell? ⟨w.heap.size, 5, none⟩ = some (.slice (some ⟨xa, oa, none⟩) T.mail.length mca) ∧ w4.cell? ⟨w.heap.size + 1, 5, none⟩ = some (.slice (some ⟨xb, ob, none⟩) T.mail.length mcb) ∧ w4.cell? ⟨xa, oa + k, none⟩ = some (.slice ua l.length uca) ∧ w4.cell? ⟨xb, ob + k, none⟩ = some (.slice ub l.length ucb)) := KEEP.out w4 b4
          refine ⟨HS4.out, ?_⟩
          simp only [Act.put, List.setIfInBounds_toArray, List.set_cons_zero, List.set_cons_succ]
          refine takeH (i := 11) (v := .bool false) (d := 87) rfl rfl (by kernel_rfl) (by kernel_rfl) (by kernel_rfl) (fun _ _ _ h => h) (by rfl) (fun V hV => by obtain ⟨v1, v2, v3, v4⟩ := hV; go_simp) HS4.out ?_
          simp only [Act.put, List.setIfInBounds_toArray, List.set_cons_zero, List.set_cons_succ]
          refine wpAnyH_done (by kernel_rfl) ?_ _
          have A4 : Hid (Below W0.heap.size W0 w4) := AB.out.trans (b4.mono hsr)
          clear HS4 HS0 KEEP hb4 b4
          go_wp2_with fail
          go_roundw
          case rel => exact ⟨k + 1, by omega, by go_num, A4.out⟩
          case measure => simp [intOf]; omega
        · go_wp2_with fail
          go_ret
          exact ⟨rfl, BW.out⟩
end Go.Proofs.Ytbmkgnlfccigpaa
