/-
  For every job and state rounds.Next answers what P13.4 says and leaves its arguments alone (the law RoundsNexts returns true, and its arguments read as before); no condition.
-/
import Derived.Test.YtbmkgnlfccigpaaRoundsNextsPartA
import Derived.Test.YtbmkgnlfccigpaaRoundsNextsPartE
import Derived.Test.YtbmkgnlfccigpaaRefFollow
import Derived.WalkKit
import Derived.ProofKit
import Derived.OpenShut
import Derived.ShutString
import Derived.SizedLaws
import Derived.ChangeOld
import Derived.Below
namespace Go.Proofs.Ytbmkgnlfccigpaa.roundsNexts
set_option maxRecDepth 100000
open Go.ChangeShapes Go.WideShapes Go.ChangeAt Go.RowKit

theorem own : ownKnob Try.prog.godebug = none := by kernel_rfl
theorem laidOut : laidOutB Try.prog = true := by kernel_rfl

set_option maxHeartbeats 1000000 in
set_option maxRecDepth 100000 in
theorem walk (v0 : Value) (n0 kd0 sr0 : Int) (es0 : List Ed) (T1 : StS) (vv1 vm1 : Value) (w : World) (hN0 : i64B n0 ∧ i64B kd0 ∧ i64B sr0) (hR0 : EdR w v0 es0) (hB0 : ∀ x ∈ es0, edB x) (hL0 : es0.length * 24 ≤ 140737488351232) (hN1 : i64B T1.step ∧ i64B T1.phase) (hV1 : MlR w vv1 T1.vals) (hM1 : LiR w vm1 T1.mail) (hB1 : StaB T1) :
    Calls Try.prog 3 #[.agg #[.int .i64 n0, v0, .int .i64 kd0, .int .i64 sr0], .agg #[.int .i64 T1.step, .int .i64 T1.phase, .bool T1.fresh, .bool T1.done, vv1, vm1]] w fun e w' => e = .returned (.bool true) ∧ Below w.heap.size w w' := by
  have _u := hN0
  clear _u
  have _u := hR0
  clear _u
  have _u := hB0
  clear _u
  have _u := hL0
  clear _u
  have _u := hN1
  clear _u
  have _u := hV1
  clear _u
  have _u := hM1
  clear _u
  have _u := hB1
  clear _u
  have HR : Hid (EdR w v0 es0) := hR0
  have HV : Hid (MlR w vv1 T1.vals) := hV1
  have HM : Hid (LiR w vm1 T1.mail) := hM1
  obtain ⟨a, cap, rfl⟩ := hR0.shape
  obtain ⟨va, vc, rfl⟩ := hV1.shape
  obtain ⟨ma, mc, rfl, _, _, _⟩ := hM1
  have HML : Hid (∀ l ∈ T1.mail, l.length ≤ 140737488355328) := fun l hl => by have := (hB1.2.1 l hl).2; omega
  have HJ : Hid (∀ X, EdR X (.slice a es0.length cap) es0 → Calls Try.prog 10 #[.agg #[.int .i64 n0, .slice a es0.length cap, .int .i64 kd0, .int .i64 sr0]] X fun e w' => ∃ v, e = .returned v ∧ (∃ v', v = .agg #[.int .i64 n0, v', .int .i64 kd0, .int .i64 sr0] ∧ EdR w' v' es0 ∧ Below X.heap.size X w')) := fun X hX => (jobs_any _ es0 n0 kd0 sr0 X hX hL0).mono fun e w' ⟨v', h1, h2⟩ => ⟨_, h1, v', rfl, h2⟩
  have HD : Hid (∀ X, MlR X (.slice va T1.vals.length vc) T1.vals → LiR X (.slice ma T1.mail.length mc) T1.mail → _) := fun X h1 h2 => states_any T1 _ _ X h1 h2 hB1
  have HF : Hid (∀ X, EdR X (.slice a es0.length cap) es0 → MlR X (.slice va T1.vals.length vc) T1.vals → LiR X (.slice ma T1.mail.length mc) T1.mail → Calls Try.prog 11 #[.agg #[.int .i64 n0, .slice a es0.length cap, .int .i64 kd0, .int .i64 sr0], .agg #[.int .i64 T1.step, .int .i64 T1.phase, .bool T1.fresh, .bool T1.done, .slice va T1.vals.length vc, .slice ma T1.mail.length mc]] X (StaP X (folE n0 es0 kd0 sr0 T1))) := fun X h1 h2 h3 => followed_any _ es0 n0 kd0 sr0 T1 _ _ X h1 h2 h3 HML.out
  have HC : Hid (∀ X v' v1 v2, EdR X v' es0 → MlR X v1 T1.vals → LiR X v2 T1.mail → Calls Try.prog 9 #[.agg #[.int .i64 n0, v', .int .i64 kd0, .int .i64 sr0], .agg #[.int .i64 T1.step, .int .i64 T1.phase, .bool T1.fresh, .bool T1.done, v1, v2]] X fun e w' => ∃ v, e = .returned v ∧ (∃ v1 v2, v = .tuple #[.agg #[.int .i64 (folE n0 es0 kd0 sr0 T1).2.step, .int .i64 (folE n0 es0 kd0 sr0 T1).2.phase, .bool (folE n0 es0 kd0 sr0 T1).2.fresh, .bool (folE n0 es0 kd0 sr0 T1).2.done, v1, v2], .int .i64 (folE n0 es0 kd0 sr0 T1).1] ∧ w'.ownsRow X.heap.size 59 2 v1 (folE n0 es0 kd0 sr0 T1).2.vals.length ((folE n0 es0 kd0 sr0 T1).2.vals.flatMap encM) ∧ OwnLi w' X.heap.size v2 (folE n0 es0 kd0 sr0 T1).2.mail ∧ Below X.heap.size X w')) := fun X v' v1 v2 h1 h2 h3 => (rNext_any v' es0 n0 kd0 sr0 T1 v1 v2 X h1 h2 h3).mono fun e w' ⟨v1, v2, h1, h2⟩ => ⟨_, h1, v1, v2, rfl, h2⟩
  obtain ⟨W0, hW0⟩ : ∃ W0, W0 = (w.alloc (.cells #[.int .i64 n0, .slice a es0.length cap, .int .i64 kd0, .int .i64 sr0] 26)).alloc (.cells #[.int .i64 T1.step, .int .i64 T1.phase, .bool T1.fresh, .bool T1.done, .slice va T1.vals.length vc, .slice ma T1.mail.length mc] 30) := ⟨_, rfl⟩
  obtain ⟨Q0, S0, B0, s1, s2⟩ := boxes2 w #[.int .i64 n0, .slice a es0.length cap, .int .i64 kd0, .int .i64 sr0] #[.int .i64 T1.step, .int .i64 T1.phase, .bool T1.fresh, .bool T1.done, .slice va T1.vals.length vc, .slice ma T1.mail.length mc] 26 30 W0 hW0
  have BH : Hid (Below w.heap.size w W0) := B0
  have HK : Hid (∀ X, Below W0.heap.size W0 X → BX 26 X w.heap.size #[.int .i64 n0, .slice a es0.length cap, .int .i64 kd0, .int .i64 sr0] ∧ BX 30 X (w.heap.size + 1) #[.int .i64 T1.step, .int .i64 T1.phase, .bool T1.fresh, .bool T1.done, .slice va T1.vals.length vc, .slice ma T1.mail.length mc] ∧ Below w.heap.size w X ∧ EdR X (.slice a es0.length cap) es0 ∧ MlR X (.slice va T1.vals.length vc) T1.vals ∧ LiR X (.slice ma T1.mail.length mc) T1.mail) := fun X hX => by
    have hb := BH.out.trans (hX.mono (show w.heap.size ≤ W0.heap.size by omega))
    exact ⟨Q0.below hX (by omega), S0.below hX (by omega), hb, HR.out.below hb (Nat.le_refl _), HV.out.below hb (Nat.le_refl _), HM.out.below hb (Nat.le_refl _)⟩
  have A0 : Hid (Below W0.heap.size W0 W0) := Below.refl _ _
  obtain ⟨⟨c0, c1, c2, c3, c4, c5⟩, _⟩ := S0.all6
  clear hR0 hB0 Q0 S0 B0 hV1 hB1
  generalize folE n0 es0 kd0 sr0 T1 = R at *
  have te : (R.1 == R.1) = true := by simp
  go_enter Try.func3, Try.ntmps3
  go_upto_region 1 with fail
  rw [← hW0]
  clear hW0
  go_wp2_with fail
  refine (HD.out _ (HK.out _ A0.out).2.2.2.2.1 (HK.out _ A0.out).2.2.2.2.2).mono ?_
  rintro e w1 ⟨u1, u2, rfl, hu1, hu2, hb1⟩
  have V1 : MlR w1 u1 T1.vals := RowK.own encM_len hu1
  have M1 : LiR w1 u2 T1.mail := hu2.reads
  obtain ⟨vb, vd, rfl⟩ := V1.shape
  obtain ⟨mb, md, rfl⟩ := hu2.shape
  have hs1 := hb1.size
  have W1 : Hid (Below W0.heap.size W0 (w1.alloc (.cells #[.int .i64 T1.step, .int .i64 T1.phase, .bool T1.fresh, .bool T1.done, .slice vb T1.vals.length vd, .slice mb T1.mail.length md] 30)) ∧ BX 30 (w1.alloc (.cells #[.int .i64 T1.step, .int .i64 T1.phase, .bool T1.fresh, .bool T1.done, .slice vb T1.vals.length vd, .slice mb T1.mail.length md] 30)) w1.heap.size #[.int .i64 T1.step, .int .i64 T1.phase, .bool T1.fresh, .bool T1.done, .slice vb T1.vals.length vd, .slice mb T1.mail.length md] ∧ MlR (w1.alloc (.cells #[.int .i64 T1.step, .int .i64 T1.phase, .bool T1.fresh, .bool T1.done, .slice vb T1.vals.length vd, .slice mb T1.mail.length md] 30)) (.slice vb T1.vals.length vd) T1.vals ∧ LiR (w1.alloc (.cells #[.int .i64 T1.step, .int .i64 T1.phase, .bool T1.fresh, .bool T1.done, .slice vb T1.vals.length vd, .slice mb T1.mail.length md] 30)) (.slice mb T1.mail.length md) T1.mail ∧ W0.heap.size ≤ w1.heap.size) := ⟨hb1.alloc hs1 _, BX.new _ _ _, V1.below (below_alloc _ _) (Nat.le_refl _), M1.below (below_alloc _ _) (Nat.le_refl _), hs1⟩
  clear hu1 hu2 hb1 V1 M1 c0 c1 c2 c3 c4 c5 hs1
  go_upto_region 2 with fail
  generalize w1.alloc (.cells #[.int .i64 T1.step, .int .i64 T1.phase, .bool T1.fresh, .bool T1.done, .slice vb T1.vals.length vd, .slice mb T1.mail.length md] 30) = w3 at *
  generalize w1.heap.size = b3 at *
  obtain ⟨A3', X3', V3', M3', hb3⟩ := W1.out
  have A3 : Hid (Below W0.heap.size W0 w3) := A3'
  have X3 : Hid (BX 30 w3 b3 #[.int .i64 T1.step, .int .i64 T1.phase, .bool T1.fresh, .bool T1.done, .slice vb T1.vals.length vd, .slice mb T1.mail.length md]) := X3'
  have V3 : Hid (MlR w3 (.slice vb T1.vals.length vd) T1.vals) := V3'
  have M3 : Hid (LiR w3 (.slice mb T1.mail.length md) T1.mail) := M3'
  clear A3' X3' V3' M3' W1
  have hs3 := A3.out.size
  have hl3 := X3.out.lt
  have KEEP : Hid (∀ V, Below w3.heap.size w3 V → ((V.cell? ⟨w.heap.size, 0, none⟩ = some (.int .i64 n0) ∧ V.cell? ⟨w.heap.size, 1, none⟩ = some (.slice a es0.length cap) ∧ V.cell? ⟨w.heap.size, 2, none⟩ = some (.int .i64 kd0) ∧ V.cell? ⟨w.heap.size, 3, none⟩ = some (.int .i64 sr0)) ∧ (V.cell? ⟨b3, 0, none⟩ = some (.int .i64 T1.step) ∧ V.cell? ⟨b3, 1, none⟩ = some (.int .i64 T1.phase) ∧ V.cell? ⟨b3, 2, none⟩ = some (.bool T1.fresh) ∧ V.cell? ⟨b3, 3, none⟩ = some (.bool T1.done) ∧ V.cell? ⟨b3, 4, none⟩ = some (.slice vb T1.vals.length vd) ∧ V.cell? ⟨b3, 5, none⟩ = some (.slice mb T1.mail.length md)))) := fun V hV => ⟨(HK.out _ (A3.out.trans (hV.mono hs3))).1.all4, (X3.out.below hV hl3).all6.1⟩
  have b0 : Below w3.heap.size w3 w3.drew := (Below.refl _ _).drew
  have HS0 : Hid ((w3.drew.cell? ⟨w.heap.size, 0, none⟩ = some (.int .i64 n0) ∧ w3.drew.cell? ⟨w.heap.size, 1, none⟩ = some (.slice a es0.length cap) ∧ w3.drew.cell? ⟨w.heap.size, 2, none⟩ = some (.int .i64 kd0) ∧ w3.drew.cell? ⟨w.heap.size, 3, none⟩ = some (.int .i64 sr0)) ∧ (w3.drew.cell? ⟨b3, 0, none⟩ = some (.int .i64 T1.step) ∧ w3.drew.cell? ⟨b3, 1, none⟩ = some (.int .i64 T1.phase) ∧ w3.drew.cell? ⟨b3, 2, none⟩ = some (.bool T1.fresh) ∧ w3.drew.cell? ⟨b3, 3, none⟩ = some (.bool T1.done) ∧ w3.drew.cell? ⟨b3, 4, none⟩ = some (.slice vb T1.vals.length vd) ∧ w3.drew.cell? ⟨b3, 5, none⟩ = some (.slice mb T1.mail.length md))) := KEEP.out w3.drew b0
  have ej : ∀ args w, (callFunc 10 args).run Try.prog w = .ok (.enter 10 args) w := enters_of Try.func10 (by kernel_rfl) rfl
  have en : ∀ args w, (callFunc 9 args).run Try.prog w = .ok (.enter 9 args) w := enters_of Try.func9 (by kernel_rfl) rfl
  apply Hid.cut
  case h =>
    intro HG
    refine wp_region_held (S := fun V => ((V.cell? ⟨w.heap.size, 0, none⟩ = some (.int .i64 n0) ∧ V.cell? ⟨w.heap.size, 1, none⟩ = some (.slice a es0.length cap) ∧ V.cell? ⟨w.heap.size, 2, none⟩ = some (.int .i64 kd0) ∧ V.cell? ⟨w.heap.size, 3, none⟩ = some (.int .i64 sr0)) ∧ (V.cell? ⟨b3, 0, none⟩ = some (.int .i64 T1.step) ∧ V.cell? ⟨b3, 1, none⟩ = some (.int .i64 T1.phase) ∧ V.cell? ⟨b3, 2, none⟩ = some (.bool T1.fresh) ∧ V.cell? ⟨b3, 3, none⟩ = some (.bool T1.done) ∧ V.cell? ⟨b3, 4, none⟩ = some (.slice vb T1.vals.length vd) ∧ V.cell? ⟨b3, 5, none⟩ = some (.slice mb T1.mail.length md)))) (by kernel_rfl) ?_
    simp only [List.size_toArray, List.length_cons, List.length_nil, Nat.reduceAdd]
    refine takeH (i := 0) (v := .agg #[.int .i64 n0, .slice a es0.length cap, .int .i64 kd0, .int .i64 sr0]) (d := 13) rfl rfl (by kernel_rfl) (by kernel_rfl) (by kernel_rfl) (fun _ _ _ h => h) (by rfl) (fun V hV => by obtain ⟨⟨v1, v2, v3, v4⟩, u1, u2, u3, u4, u5, u6⟩ := hV; go_simp) HS0.out ?_
    simp only [Act.put, List.setIfInBounds_toArray, List.set_cons_zero, List.set_cons_succ]
    refine takeH (i := 2) (v := .agg #[.int .i64 T1.step, .int .i64 T1.phase, .bool T1.fresh, .bool T1.done, .slice vb T1.vals.length vd, .slice mb T1.mail.length md]) (d := 15) rfl rfl (by kernel_rfl) (by kernel_rfl) (by kernel_rfl) (fun _ _ _ h => h) (by rfl) (fun V hV => by obtain ⟨⟨v1, v2, v3, v4⟩, u1, u2, u3, u4, u5, u6⟩ := hV; go_simp) HS0.out ?_
    simp only [Act.put, List.setIfInBounds_toArray, List.set_cons_zero, List.set_cons_succ]
    refine twoH (i := 1) (j := 7) rfl rfl (by kernel_rfl) rfl rfl ?w1j ?w1x
    case w1j =>
      refine call_gets (d := 14) (f := 10) (xs := #[.tmp 13]) (ats := #[26]) rfl rfl ej (vs := #[.agg #[.int .i64 n0, .slice a es0.length cap, .int .i64 kd0, .int .i64 sr0]]) (by simp [Act.eval]) (HJ.out w3.drew (HK.out _ (A3.out.trans (Below.mono (b0) hs3))).2.2.2.1) ?_
      rintro vr wj1 ⟨v', rfl, hv', hb⟩
      have wj1_b : Below w3.heap.size w3 wj1 := (b0).trans (hb.mono (Below.size (b0)))
      have EV : Hid (EdR wj1 v' es0) := hv'
      obtain ⟨aj, cj, rfl⟩ := hv'.shape
      have HS_wj1 : Hid ((wj1.cell? ⟨w.heap.size, 0, none⟩ = some (.int .i64 n0) ∧ wj1.cell? ⟨w.heap.size, 1, none⟩ = some (.slice a es0.length cap) ∧ wj1.cell? ⟨w.heap.size, 2, none⟩ = some (.int .i64 kd0) ∧ wj1.cell? ⟨w.heap.size, 3, none⟩ = some (.int .i64 sr0)) ∧ (wj1.cell? ⟨b3, 0, none⟩ = some (.int .i64 T1.step) ∧ wj1.cell? ⟨b3, 1, none⟩ = some (.int .i64 T1.phase) ∧ wj1.cell? ⟨b3, 2, none⟩ = some (.bool T1.fresh) ∧ wj1.cell? ⟨b3, 3, none⟩ = some (.bool T1.done) ∧ wj1.cell? ⟨b3, 4, none⟩ = some (.slice vb T1.vals.length vd) ∧ wj1.cell? ⟨b3, 5, none⟩ = some (.slice mb T1.mail.length md))) := KEEP.out wj1 wj1_b
      refine ⟨HS_wj1.out, ?_⟩
      simp only [Act.put, List.setIfInBounds_toArray, List.set_cons_zero, List.set_cons_succ]
      clear hv' hb
      refine twoH (i := 3) (j := 7) rfl rfl (by kernel_rfl) rfl rfl ?w2n ?w2x
      case w2n =>
        refine call_gets (d := 16) (f := 9) (xs := #[.tmp 14, .tmp 15]) (ats := #[26, 30]) rfl rfl en (vs := #[.agg #[.int .i64 n0, .slice aj es0.length cj, .int .i64 kd0, .int .i64 sr0], .agg #[.int .i64 T1.step, .int .i64 T1.phase, .bool T1.fresh, .bool T1.done, .slice vb T1.vals.length vd, .slice mb T1.mail.length md]]) (by simp [Act.eval]) (HC.out wj1 _ _ _ EV.out (V3.out.below (wj1_b) (Nat.le_refl _)) (M3.out.below (wj1_b) (Nat.le_refl _))) ?_
        rintro vr wn2 ⟨v5, v6, rfl, ho5, ho6, hb⟩
        have wn2_b : Below w3.heap.size w3 wn2 := (wj1_b).trans (hb.mono (Below.size (wj1_b)))
        have I5 : MlR wn2 v5 R.2.vals := RowK.own encM_len ho5
        have I6 : LiR wn2 v6 R.2.mail := ho6.reads
        obtain ⟨a5, c5, rfl⟩ := I5.shape
        obtain ⟨a6, c6, rfl⟩ := ho6.shape
        have HS_wn2 : Hid ((wn2.cell? ⟨w.heap.size, 0, none⟩ = some (.int .i64 n0) ∧ wn2.cell? ⟨w.heap.size, 1, none⟩ = some (.slice a es0.length cap) ∧ wn2.cell? ⟨w.heap.size, 2, none⟩ = some (.int .i64 kd0) ∧ wn2.cell? ⟨w.heap.size, 3, none⟩ = some (.int .i64 sr0)) ∧ (wn2.cell? ⟨b3, 0, none⟩ = some (.int .i64 T1.step) ∧ wn2.cell? ⟨b3, 1, none⟩ = some (.int .i64 T1.phase) ∧ wn2.cell? ⟨b3, 2, none⟩ = some (.bool T1.fresh) ∧ wn2.cell? ⟨b3, 3, none⟩ = some (.bool T1.done) ∧ wn2.cell? ⟨b3, 4, none⟩ = some (.slice vb T1.vals.length vd) ∧ wn2.cell? ⟨b3, 5, none⟩ = some (.slice mb T1.mail.length md))) := KEEP.out wn2 wn2_b
        have OV : Hid (wn2.ownsRow w3.heap.size 59 2 (.slice a5 R.2.vals.length c5) R.2.vals.length (R.2.vals.flatMap encM)) := own_lower ho5 (Below.size (wj1_b))
        have OM : Hid (OwnLi wn2 w3.heap.size (.slice a6 R.2.mail.length c6) R.2.mail) := ho6.lower (Below.size (wj1_b))
        refine ⟨HS_wn2.out, ?_⟩
        simp only [Act.put, List.setIfInBounds_toArray, List.set_cons_zero, List.set_cons_succ]
        clear ho5 ho6 hb I5 I6
        refine takeH (i := 4) (v := .tuple #[.agg #[.int .i64 R.2.step, .int .i64 R.2.phase, .bool R.2.fresh, .bool R.2.done, .slice a5 R.2.vals.length c5, .slice a6 R.2.mail.length c6], .int .i64 R.1]) (d := 12) rfl rfl (by kernel_rfl) (by kernel_rfl) (by kernel_rfl) (fun _ _ _ h => h) (by rfl) (fun V hV => by obtain ⟨⟨v1, v2, v3, v4⟩, u1, u2, u3, u4, u5, u6⟩ := hV; go_simp) HS_wn2.out ?_
        simp only [Act.put, List.setIfInBounds_toArray, List.set_cons_zero, List.set_cons_succ]
        refine takeH (i := 5) (v := .agg #[.int .i64 R.2.step, .int .i64 R.2.phase, .bool R.2.fresh, .bool R.2.done, .slice a5 R.2.vals.length c5, .slice a6 R.2.mail.length c6]) (d := 17) rfl rfl (by kernel_rfl) (by kernel_rfl) (by kernel_rfl) (fun _ _ _ h => h) (by rfl) (fun V hV => by obtain ⟨⟨v1, v2, v3, v4⟩, u1, u2, u3, u4, u5, u6⟩ := hV; go_simp) HS_wn2.out ?_
        simp only [Act.put, List.setIfInBounds_toArray, List.set_cons_zero, List.set_cons_succ]
        refine takeH (i := 6) (v := .int .i64 R.1) (d := 18) rfl rfl (by kernel_rfl) (by kernel_rfl) (by kernel_rfl) (fun _ _ _ h => h) (by rfl) (fun V hV => by obtain ⟨⟨v1, v2, v3, v4⟩, u1, u2, u3, u4, u5, u6⟩ := hV; go_simp) HS_wn2.out ?_
        simp only [Act.put, List.setIfInBounds_toArray, List.set_cons_zero, List.set_cons_succ]
        refine oneH (i := 7) rfl (by kernel_rfl) rfl (op_run (d := 6) (v' := .pointer (some ⟨wn2.heap.size, 0, none⟩)) (w' := wn2.alloc (.cells #[.int .i64 0, .int .i64 0, .bool false, .bool false, .slice none 0 0, .slice none 0 0] 30)) rfl (by go_simp) ⟨KEEP.out _ (Below.alloc (wn2_b) (Below.size (wn2_b)) _), ?_⟩)
        simp only [Act.put, List.setIfInBounds_toArray, List.set_cons_zero, List.set_cons_succ]
        have wx3_b : Below w3.heap.size w3 (wn2.alloc (.cells #[.int .i64 0, .int .i64 0, .bool false, .bool false, .slice none 0 0, .slice none 0 0] 30)) := Below.alloc (wn2_b) (Below.size (wn2_b)) _
        have NZ : Hid (BX 30 (wn2.alloc (.cells #[.int .i64 0, .int .i64 0, .bool false, .bool false, .slice none 0 0, .slice none 0 0] 30)) (wn2.heap.size) #[.int .i64 0, .int .i64 0, .bool false, .bool false, .slice none 0 0, .slice none 0 0]) := BX.new _ _ _
        have LB : Hid (w3.heap.size ≤ wn2.heap.size) := Below.size (wn2_b)
        replace OV : Hid ((wn2.alloc (.cells #[.int .i64 0, .int .i64 0, .bool false, .bool false, .slice none 0 0, .slice none 0 0] 30)).ownsRow w3.heap.size 59 2 (.slice a5 R.2.vals.length c5) R.2.vals.length (R.2.vals.flatMap encM)) := OV.out.alloc _
        replace OM : Hid (OwnLi (wn2.alloc (.cells #[.int .i64 0, .int .i64 0, .bool false, .bool false, .slice none 0 0, .slice none 0 0] 30)) w3.heap.size (.slice a6 R.2.mail.length c6) R.2.mail) := OM.out.below (below_alloc _ _) (Nat.le_refl _)
        generalize wn2.alloc (.cells #[.int .i64 0, .int .i64 0, .bool false, .bool false, .slice none 0 0, .slice none 0 0] 30) = wx3 at *
        obtain ⟨⟨d0, d1, d2, d3, d4, d5⟩, e0, e1, e2, e3, e4, e5⟩ := NZ.out.all6
        have FB : Hid (Below w3.heap.size w3 (put6 wx3 (wn2.heap.size) (.int .i64 R.2.step) (.int .i64 R.2.phase) (.bool R.2.fresh) (.bool R.2.done) (.slice a5 R.2.vals.length c5) (.slice a6 R.2.mail.length c6))) := below_put6 wx3_b LB.out NZ.out.lt _ _ _ _ _ _
        have HSF : Hid (((put6 wx3 (wn2.heap.size) (.int .i64 R.2.step) (.int .i64 R.2.phase) (.bool R.2.fresh) (.bool R.2.done) (.slice a5 R.2.vals.length c5) (.slice a6 R.2.mail.length c6)).cell? ⟨w.heap.size, 0, none⟩ = some (.int .i64 n0) ∧ (put6 wx3 (wn2.heap.size) (.int .i64 R.2.step) (.int .i64 R.2.phase) (.bool R.2.fresh) (.bool R.2.done) (.slice a5 R.2.vals.length c5) (.slice a6 R.2.mail.length c6)).cell? ⟨w.heap.size, 1, none⟩ = some (.slice a es0.length cap) ∧ (put6 wx3 (wn2.heap.size) (.int .i64 R.2.step) (.int .i64 R.2.phase) (.bool R.2.fresh) (.bool R.2.done) (.slice a5 R.2.vals.length c5) (.slice a6 R.2.mail.length c6)).cell? ⟨w.heap.size, 2, none⟩ = some (.int .i64 kd0) ∧ (put6 wx3 (wn2.heap.size) (.int .i64 R.2.step) (.int .i64 R.2.phase) (.bool R.2.fresh) (.bool R.2.done) (.slice a5 R.2.vals.length c5) (.slice a6 R.2.mail.length c6)).cell? ⟨w.heap.size, 3, none⟩ = some (.int .i64 sr0)) ∧ ((put6 wx3 (wn2.heap.size) (.int .i64 R.2.step) (.int .i64 R.2.phase) (.bool R.2.fresh) (.bool R.2.done) (.slice a5 R.2.vals.length c5) (.slice a6 R.2.mail.length c6)).cell? ⟨b3, 0, none⟩ = some (.int .i64 T1.step) ∧ (put6 wx3 (wn2.heap.size) (.int .i64 R.2.step) (.int .i64 R.2.phase) (.bool R.2.fresh) (.bool R.2.done) (.slice a5 R.2.vals.length c5) (.slice a6 R.2.mail.length c6)).cell? ⟨b3, 1, none⟩ = some (.int .i64 T1.phase) ∧ (put6 wx3 (wn2.heap.size) (.int .i64 R.2.step) (.int .i64 R.2.phase) (.bool R.2.fresh) (.bool R.2.done) (.slice a5 R.2.vals.length c5) (.slice a6 R.2.mail.length c6)).cell? ⟨b3, 2, none⟩ = some (.bool T1.fresh) ∧ (put6 wx3 (wn2.heap.size) (.int .i64 R.2.step) (.int .i64 R.2.phase) (.bool R.2.fresh) (.bool R.2.done) (.slice a5 R.2.vals.length c5) (.slice a6 R.2.mail.length c6)).cell? ⟨b3, 3, none⟩ = some (.bool T1.done) ∧ (put6 wx3 (wn2.heap.size) (.int .i64 R.2.step) (.int .i64 R.2.phase) (.bool R.2.fresh) (.bool R.2.done) (.slice a5 R.2.vals.length c5) (.slice a6 R.2.mail.length c6)).cell? ⟨b3, 4, none⟩ = some (.slice vb T1.vals.length vd) ∧ (put6 wx3 (wn2.heap.size) (.int .i64 R.2.step) (.int .i64 R.2.phase) (.bool R.2.fresh) (.bool R.2.done) (.slice a5 R.2.vals.length c5) (.slice a6 R.2.mail.length c6)).cell? ⟨b3, 5, none⟩ = some (.slice mb T1.mail.length md))) := KEEP.out _ FB.out
        have FX : Hid (BX 30 (put6 wx3 (wn2.heap.size) (.int .i64 R.2.step) (.int .i64 R.2.phase) (.bool R.2.fresh) (.bool R.2.done) (.slice a5 R.2.vals.length c5) (.slice a6 R.2.mail.length c6)) (wn2.heap.size) #[.int .i64 R.2.step, .int .i64 R.2.phase, .bool R.2.fresh, .bool R.2.done, .slice a5 R.2.vals.length c5, .slice a6 R.2.mail.length c6]) := NZ.out.put6
        have FV : Hid ((put6 wx3 (wn2.heap.size) (.int .i64 R.2.step) (.int .i64 R.2.phase) (.bool R.2.fresh) (.bool R.2.done) (.slice a5 R.2.vals.length c5) (.slice a6 R.2.mail.length c6)).ownsRow w3.heap.size 59 2 (.slice a5 R.2.vals.length c5) R.2.vals.length (R.2.vals.flatMap encM)) := own_off OV.out NZ.out (by decide) (kept_put6 _ _ _ _ _ _ _ _)
        have FM : Hid (OwnLi (put6 wx3 (wn2.heap.size) (.int .i64 R.2.step) (.int .i64 R.2.phase) (.bool R.2.fresh) (.bool R.2.done) (.slice a5 R.2.vals.length c5) (.slice a6 R.2.mail.length c6)) w3.heap.size (.slice a6 R.2.mail.length c6) R.2.mail) := OM.out.off NZ.out (by decide) (by decide) (kept_put6 _ _ _ _ _ _ _ _)
        refine oneH (i := 8) rfl (by kernel_rfl) rfl (op_skip (w' := (put6 wx3 (wn2.heap.size) (.int .i64 R.2.step) (.int .i64 R.2.phase) (.bool R.2.fresh) (.bool R.2.done) (.slice a5 R.2.vals.length c5) (.slice a6 R.2.mail.length c6))) rfl (by unfold put6; go_simp) ⟨HSF.out, ?_⟩)
        refine takeH (i := 9) (v := .int .i64 R.1) (d := 7) rfl rfl (by kernel_rfl) (by kernel_rfl) (by kernel_rfl) (fun _ _ _ h => h) (by rfl) (fun V hV => by obtain ⟨⟨v1, v2, v3, v4⟩, u1, u2, u3, u4, u5, u6⟩ := hV; go_simp) HSF.out ?_
        simp only [Act.put, List.setIfInBounds_toArray, List.set_cons_zero, List.set_cons_succ]
        refine wpAnyH_done (by kernel_rfl) ?_ _
        clear HSF d0 d1 d2 d3 d4 d5 e0 e1 e2 e3 e4 e5 NZ OV OM EV
        generalize put6 wx3 (wn2.heap.size) (.int .i64 R.2.step) (.int .i64 R.2.phase) (.bool R.2.fresh) (.bool R.2.done) (.slice a5 R.2.vals.length c5) (.slice a6 R.2.mail.length c6) = WF at *
        generalize hbk : wn2.heap.size = bk at *
        clear hbk
        revert LB
        revert FB
        revert FM
        revert FV
        revert FX
        revert WF
        revert bk
        revert c6
        revert a6
        revert c5
        revert a5
        revert cj
        revert aj
        exact HG.out
      case w2x =>
        refine op_run (d := 6) (v' := .pointer (some ⟨wj1.heap.size, 0, none⟩)) (w' := wj1.alloc (.cells #[.int .i64 0, .int .i64 0, .bool false, .bool false, .slice none 0 0, .slice none 0 0] 30)) rfl (by go_simp) ⟨KEEP.out _ (Below.alloc (wj1_b) (Below.size (wj1_b)) _), ?_⟩
        simp only [Act.put, List.setIfInBounds_toArray, List.set_cons_zero, List.set_cons_succ]
        have wx2_b : Below w3.heap.size w3 (wj1.alloc (.cells #[.int .i64 0, .int .i64 0, .bool false, .bool false, .slice none 0 0, .slice none 0 0] 30)) := Below.alloc (wj1_b) (Below.size (wj1_b)) _
        have NX : Hid (BX 30 (wj1.alloc (.cells #[.int .i64 0, .int .i64 0, .bool false, .bool false, .slice none 0 0, .slice none 0 0] 30)) (wj1.heap.size) #[.int .i64 0, .int .i64 0, .bool false, .bool false, .slice none 0 0, .slice none 0 0]) := BX.new _ _ _
        have LB : Hid (w3.heap.size ≤ wj1.heap.size) := Below.size (wj1_b)
        replace EV : Hid (EdR (wj1.alloc (.cells #[.int .i64 0, .int .i64 0, .bool false, .bool false, .slice none 0 0, .slice none 0 0] 30)) (.slice aj es0.length cj) es0) := EV.out.below (below_alloc _ _) (Nat.le_refl _)
        generalize wj1.alloc (.cells #[.int .i64 0, .int .i64 0, .bool false, .bool false, .slice none 0 0, .slice none 0 0] 30) = wx2 at *
        refine oneH (i := 3) rfl (by kernel_rfl) rfl (call_gets (d := 16) (f := 9) (xs := #[.tmp 14, .tmp 15]) (ats := #[26, 30]) rfl rfl en (vs := #[.agg #[.int .i64 n0, .slice aj es0.length cj, .int .i64 kd0, .int .i64 sr0], .agg #[.int .i64 T1.step, .int .i64 T1.phase, .bool T1.fresh, .bool T1.done, .slice vb T1.vals.length vd, .slice mb T1.mail.length md]]) (by simp [Act.eval]) (HC.out wx2 _ _ _ EV.out (V3.out.below (wx2_b) (Nat.le_refl _)) (M3.out.below (wx2_b) (Nat.le_refl _))) ?_)
        rintro vr wn3 ⟨v5, v6, rfl, ho5, ho6, hb⟩
        have wn3_b : Below w3.heap.size w3 wn3 := (wx2_b).trans (hb.mono (Below.size (wx2_b)))
        have I5 : MlR wn3 v5 R.2.vals := RowK.own encM_len ho5
        have I6 : LiR wn3 v6 R.2.mail := ho6.reads
        obtain ⟨a5, c5, rfl⟩ := I5.shape
        obtain ⟨a6, c6, rfl⟩ := ho6.shape
        have NZ : Hid (BX 30 wn3 (wj1.heap.size) #[.int .i64 0, .int .i64 0, .bool false, .bool false, .slice none 0 0, .slice none 0 0]) := NX.out.below hb NX.out.lt
        have HS_wn3 : Hid ((wn3.cell? ⟨w.heap.size, 0, none⟩ = some (.int .i64 n0) ∧ wn3.cell? ⟨w.heap.size, 1, none⟩ = some (.slice a es0.length cap) ∧ wn3.cell? ⟨w.heap.size, 2, none⟩ = some (.int .i64 kd0) ∧ wn3.cell? ⟨w.heap.size, 3, none⟩ = some (.int .i64 sr0)) ∧ (wn3.cell? ⟨b3, 0, none⟩ = some (.int .i64 T1.step) ∧ wn3.cell? ⟨b3, 1, none⟩ = some (.int .i64 T1.phase) ∧ wn3.cell? ⟨b3, 2, none⟩ = some (.bool T1.fresh) ∧ wn3.cell? ⟨b3, 3, none⟩ = some (.bool T1.done) ∧ wn3.cell? ⟨b3, 4, none⟩ = some (.slice vb T1.vals.length vd) ∧ wn3.cell? ⟨b3, 5, none⟩ = some (.slice mb T1.mail.length md))) := KEEP.out wn3 wn3_b
        have OV : Hid (wn3.ownsRow w3.heap.size 59 2 (.slice a5 R.2.vals.length c5) R.2.vals.length (R.2.vals.flatMap encM)) := own_lower ho5 (Below.size (wx2_b))
        have OM : Hid (OwnLi wn3 w3.heap.size (.slice a6 R.2.mail.length c6) R.2.mail) := ho6.lower (Below.size (wx2_b))
        refine ⟨HS_wn3.out, ?_⟩
        simp only [Act.put, List.setIfInBounds_toArray, List.set_cons_zero, List.set_cons_succ]
        clear ho5 ho6 hb I5 I6
        refine takeH (i := 4) (v := .tuple #[.agg #[.int .i64 R.2.step, .int .i64 R.2.phase, .bool R.2.fresh, .bool R.2.done, .slice a5 R.2.vals.length c5, .slice a6 R.2.mail.length c6], .int .i64 R.1]) (d := 12) rfl rfl (by kernel_rfl) (by kernel_rfl) (by kernel_rfl) (fun _ _ _ h => h) (by rfl) (fun V hV => by obtain ⟨⟨v1, v2, v3, v4⟩, u1, u2, u3, u4, u5, u6⟩ := hV; go_simp) HS_wn3.out ?_
        simp only [Act.put, List.setIfInBounds_toArray, List.set_cons_zero, List.set_cons_succ]
        refine takeH (i := 5) (v := .agg #[.int .i64 R.2.step, .int .i64 R.2.phase, .bool R.2.fresh, .bool R.2.done, .slice a5 R.2.vals.length c5, .slice a6 R.2.mail.length c6]) (d := 17) rfl rfl (by kernel_rfl) (by kernel_rfl) (by kernel_rfl) (fun _ _ _ h => h) (by rfl) (fun V hV => by obtain ⟨⟨v1, v2, v3, v4⟩, u1, u2, u3, u4, u5, u6⟩ := hV; go_simp) HS_wn3.out ?_
        simp only [Act.put, List.setIfInBounds_toArray, List.set_cons_zero, List.set_cons_succ]
        refine takeH (i := 6) (v := .int .i64 R.1) (d := 18) rfl rfl (by kernel_rfl) (by kernel_rfl) (by kernel_rfl) (fun _ _ _ h => h) (by rfl) (fun V hV => by obtain ⟨⟨v1, v2, v3, v4⟩, u1, u2, u3, u4, u5, u6⟩ := hV; go_simp) HS_wn3.out ?_
        simp only [Act.put, List.setIfInBounds_toArray, List.set_cons_zero, List.set_cons_succ]
        obtain ⟨⟨d0, d1, d2, d3, d4, d5⟩, e0, e1, e2, e3, e4, e5⟩ := NZ.out.all6
        have FB : Hid (Below w3.heap.size w3 (put6 wn3 (wj1.heap.size) (.int .i64 R.2.step) (.int .i64 R.2.phase) (.bool R.2.fresh) (.bool R.2.done) (.slice a5 R.2.vals.length c5) (.slice a6 R.2.mail.length c6))) := below_put6 wn3_b LB.out NZ.out.lt _ _ _ _ _ _
        have HSF : Hid (((put6 wn3 (wj1.heap.size) (.int .i64 R.2.step) (.int .i64 R.2.phase) (.bool R.2.fresh) (.bool R.2.done) (.slice a5 R.2.vals.length c5) (.slice a6 R.2.mail.length c6)).cell? ⟨w.heap.size, 0, none⟩ = some (.int .i64 n0) ∧ (put6 wn3 (wj1.heap.size) (.int .i64 R.2.step) (.int .i64 R.2.phase) (.bool R.2.fresh) (.bool R.2.done) (.slice a5 R.2.vals.length c5) (.slice a6 R.2.mail.length c6)).cell? ⟨w.heap.size, 1, none⟩ = some (.slice a es0.length cap) ∧ (put6 wn3 (wj1.heap.size) (.int .i64 R.2.step) (.int .i64 R.2.phase) (.bool R.2.fresh) (.bool R.2.done) (.slice a5 R.2.vals.length c5) (.slice a6 R.2.mail.length c6)).cell? ⟨w.heap.size, 2, none⟩ = some (.int .i64 kd0) ∧ (put6 wn3 (wj1.heap.size) (.int .i64 R.2.step) (.int .i64 R.2.phase) (.bool R.2.fresh) (.bool R.2.done) (.slice a5 R.2.vals.length c5) (.slice a6 R.2.mail.length c6)).cell? ⟨w.heap.size, 3, none⟩ = some (.int .i64 sr0)) ∧ ((put6 wn3 (wj1.heap.size) (.int .i64 R.2.step) (.int .i64 R.2.phase) (.bool R.2.fresh) (.bool R.2.done) (.slice a5 R.2.vals.length c5) (.slice a6 R.2.mail.length c6)).cell? ⟨b3, 0, none⟩ = some (.int .i64 T1.step) ∧ (put6 wn3 (wj1.heap.size) (.int .i64 R.2.step) (.int .i64 R.2.phase) (.bool R.2.fresh) (.bool R.2.done) (.slice a5 R.2.vals.length c5) (.slice a6 R.2.mail.length c6)).cell? ⟨b3, 1, none⟩ = some (.int .i64 T1.phase) ∧ (put6 wn3 (wj1.heap.size) (.int .i64 R.2.step) (.int .i64 R.2.phase) (.bool R.2.fresh) (.bool R.2.done) (.slice a5 R.2.vals.length c5) (.slice a6 R.2.mail.length c6)).cell? ⟨b3, 2, none⟩ = some (.bool T1.fresh) ∧ (put6 wn3 (wj1.heap.size) (.int .i64 R.2.step) (.int .i64 R.2.phase) (.bool R.2.fresh) (.bool R.2.done) (.slice a5 R.2.vals.length c5) (.slice a6 R.2.mail.length c6)).cell? ⟨b3, 3, none⟩ = some (.bool T1.done) ∧ (put6 wn3 (wj1.heap.size) (.int .i64 R.2.step) (.int .i64 R.2.phase) (.bool R.2.fresh) (.bool R.2.done) (.slice a5 R.2.vals.length c5) (.slice a6 R.2.mail.length c6)).cell? ⟨b3, 4, none⟩ = some (.slice vb T1.vals.length vd) ∧ (put6 wn3 (wj1.heap.size) (.int .i64 R.2.step) (.int .i64 R.2.phase) (.bool R.2.fresh) (.bool R.2.done) (.slice a5 R.2.vals.length c5) (.slice a6 R.2.mail.length c6)).cell? ⟨b3, 5, none⟩ = some (.slice mb T1.mail.length md))) := KEEP.out _ FB.out
        have FX : Hid (BX 30 (put6 wn3 (wj1.heap.size) (.int .i64 R.2.step) (.int .i64 R.2.phase) (.bool R.2.fresh) (.bool R.2.done) (.slice a5 R.2.vals.length c5) (.slice a6 R.2.mail.length c6)) (wj1.heap.size) #[.int .i64 R.2.step, .int .i64 R.2.phase, .bool R.2.fresh, .bool R.2.done, .slice a5 R.2.vals.length c5, .slice a6 R.2.mail.length c6]) := NZ.out.put6
        have FV : Hid ((put6 wn3 (wj1.heap.size) (.int .i64 R.2.step) (.int .i64 R.2.phase) (.bool R.2.fresh) (.bool R.2.done) (.slice a5 R.2.vals.length c5) (.slice a6 R.2.mail.length c6)).ownsRow w3.heap.size 59 2 (.slice a5 R.2.vals.length c5) R.2.vals.length (R.2.vals.flatMap encM)) := own_off OV.out NZ.out (by decide) (kept_put6 _ _ _ _ _ _ _ _)
        have FM : Hid (OwnLi (put6 wn3 (wj1.heap.size) (.int .i64 R.2.step) (.int .i64 R.2.phase) (.bool R.2.fresh) (.bool R.2.done) (.slice a5 R.2.vals.length c5) (.slice a6 R.2.mail.length c6)) w3.heap.size (.slice a6 R.2.mail.length c6) R.2.mail) := OM.out.off NZ.out (by decide) (by decide) (kept_put6 _ _ _ _ _ _ _ _)
        refine oneH (i := 8) rfl (by kernel_rfl) rfl (op_skip (w' := (put6 wn3 (wj1.heap.size) (.int .i64 R.2.step) (.int .i64 R.2.phase) (.bool R.2.fresh) (.bool R.2.done) (.slice a5 R.2.vals.length c5) (.slice a6 R.2.mail.length c6))) rfl (by unfold put6; go_simp) ⟨HSF.out, ?_⟩)
        refine takeH (i := 9) (v := .int .i64 R.1) (d := 7) rfl rfl (by kernel_rfl) (by kernel_rfl) (by kernel_rfl) (fun _ _ _ h => h) (by rfl) (fun V hV => by obtain ⟨⟨v1, v2, v3, v4⟩, u1, u2, u3, u4, u5, u6⟩ := hV; go_simp) HSF.out ?_
        simp only [Act.put, List.setIfInBounds_toArray, List.set_cons_zero, List.set_cons_succ]
        refine wpAnyH_done (by kernel_rfl) ?_ _
        exact HG.out aj cj a5 c5 a6 c6 _ _ FX FV FM FB LB
    case w1x =>
      refine op_run (d := 6) (v' := .pointer (some ⟨w3.heap.size, 0, none⟩)) (w' := w3.drew.alloc (.cells #[.int .i64 0, .int .i64 0, .bool false, .bool false, .slice none 0 0, .slice none 0 0] 30)) rfl (by go_simp) ⟨KEEP.out _ (Below.alloc (b0) (Below.size (b0)) _), ?_⟩
      simp only [Act.put, List.setIfInBounds_toArray, List.set_cons_zero, List.set_cons_succ]
      have wx1_b : Below w3.heap.size w3 (w3.drew.alloc (.cells #[.int .i64 0, .int .i64 0, .bool false, .bool false, .slice none 0 0, .slice none 0 0] 30)) := Below.alloc (b0) (Below.size (b0)) _
      have NX0 : Hid (BX 30 (w3.drew.alloc (.cells #[.int .i64 0, .int .i64 0, .bool false, .bool false, .slice none 0 0, .slice none 0 0] 30)) (w3.heap.size) #[.int .i64 0, .int .i64 0, .bool false, .bool false, .slice none 0 0, .slice none 0 0]) := BX.new _ _ _
      have LB : Hid (w3.heap.size ≤ w3.heap.size) := Nat.le_refl _
      generalize w3.drew.alloc (.cells #[.int .i64 0, .int .i64 0, .bool false, .bool false, .slice none 0 0, .slice none 0 0] 30) = wx1 at *
      refine oneH (i := 1) rfl (by kernel_rfl) rfl (call_gets (d := 14) (f := 10) (xs := #[.tmp 13]) (ats := #[26]) rfl rfl ej (vs := #[.agg #[.int .i64 n0, .slice a es0.length cap, .int .i64 kd0, .int .i64 sr0]]) (by simp [Act.eval]) (HJ.out wx1 (HK.out _ (A3.out.trans (Below.mono (wx1_b) hs3))).2.2.2.1) ?_)
      rintro vr wj2 ⟨v', rfl, hv', hb⟩
      have wj2_b : Below w3.heap.size w3 wj2 := (wx1_b).trans (hb.mono (Below.size (wx1_b)))
      have EV : Hid (EdR wj2 v' es0) := hv'
      obtain ⟨aj, cj, rfl⟩ := hv'.shape
      have HS_wj2 : Hid ((wj2.cell? ⟨w.heap.size, 0, none⟩ = some (.int .i64 n0) ∧ wj2.cell? ⟨w.heap.size, 1, none⟩ = some (.slice a es0.length cap) ∧ wj2.cell? ⟨w.heap.size, 2, none⟩ = some (.int .i64 kd0) ∧ wj2.cell? ⟨w.heap.size, 3, none⟩ = some (.int .i64 sr0)) ∧ (wj2.cell? ⟨b3, 0, none⟩ = some (.int .i64 T1.step) ∧ wj2.cell? ⟨b3, 1, none⟩ = some (.int .i64 T1.phase) ∧ wj2.cell? ⟨b3, 2, none⟩ = some (.bool T1.fresh) ∧ wj2.cell? ⟨b3, 3, none⟩ = some (.bool T1.done) ∧ wj2.cell? ⟨b3, 4, none⟩ = some (.slice vb T1.vals.length vd) ∧ wj2.cell? ⟨b3, 5, none⟩ = some (.slice mb T1.mail.length md))) := KEEP.out wj2 wj2_b
      refine ⟨HS_wj2.out, ?_⟩
      simp only [Act.put, List.setIfInBounds_toArray, List.set_cons_zero, List.set_cons_succ]
      have hb0 := hb
      have NX : Hid (BX 30 wj2 (w3.heap.size) #[.int .i64 0, .int .i64 0, .bool false, .bool false, .slice none 0 0, .slice none 0 0]) := NX0.out.below (show Below wx1.heap.size wx1 wj2 from hb0) NX0.out.lt
      clear hv' hb hb0
      refine oneH (i := 3) rfl (by kernel_rfl) rfl (call_gets (d := 16) (f := 9) (xs := #[.tmp 14, .tmp 15]) (ats := #[26, 30]) rfl rfl en (vs := #[.agg #[.int .i64 n0, .slice aj es0.length cj, .int .i64 kd0, .int .i64 sr0], .agg #[.int .i64 T1.step, .int .i64 T1.phase, .bool T1.fresh, .bool T1.done, .slice vb T1.vals.length vd, .slice mb T1.mail.length md]]) (by simp [Act.eval]) (HC.out wj2 _ _ _ EV.out (V3.out.below (wj2_b) (Nat.le_refl _)) (M3.out.below (wj2_b) (Nat.le_refl _))) ?_)
      rintro vr wn3 ⟨v5, v6, rfl, ho5, ho6, hb⟩
      have wn3_b : Below w3.heap.size w3 wn3 := (wj2_b).trans (hb.mono (Below.size (wj2_b)))
      have I5 : MlR wn3 v5 R.2.vals := RowK.own encM_len ho5
      have I6 : LiR wn3 v6 R.2.mail := ho6.reads
      obtain ⟨a5, c5, rfl⟩ := I5.shape
      obtain ⟨a6, c6, rfl⟩ := ho6.shape
      have NZ : Hid (BX 30 wn3 (w3.heap.size) #[.int .i64 0, .int .i64 0, .bool false, .bool false, .slice none 0 0, .slice none 0 0]) := NX.out.below hb NX.out.lt
      have HS_wn3 : Hid ((wn3.cell? ⟨w.heap.size, 0, none⟩ = some (.int .i64 n0) ∧ wn3.cell? ⟨w.heap.size, 1, none⟩ = some (.slice a es0.length cap) ∧ wn3.cell? ⟨w.heap.size, 2, none⟩ = some (.int .i64 kd0) ∧ wn3.cell? ⟨w.heap.size, 3, none⟩ = some (.int .i64 sr0)) ∧ (wn3.cell? ⟨b3, 0, none⟩ = some (.int .i64 T1.step) ∧ wn3.cell? ⟨b3, 1, none⟩ = some (.int .i64 T1.phase) ∧ wn3.cell? ⟨b3, 2, none⟩ = some (.bool T1.fresh) ∧ wn3.cell? ⟨b3, 3, none⟩ = some (.bool T1.done) ∧ wn3.cell? ⟨b3, 4, none⟩ = some (.slice vb T1.vals.length vd) ∧ wn3.cell? ⟨b3, 5, none⟩ = some (.slice mb T1.mail.length md))) := KEEP.out wn3 wn3_b
      have OV : Hid (wn3.ownsRow w3.heap.size 59 2 (.slice a5 R.2.vals.length c5) R.2.vals.length (R.2.vals.flatMap encM)) := own_lower ho5 (Below.size (wj2_b))
      have OM : Hid (OwnLi wn3 w3.heap.size (.slice a6 R.2.mail.length c6) R.2.mail) := ho6.lower (Below.size (wj2_b))
      refine ⟨HS_wn3.out, ?_⟩
      simp only [Act.put, List.setIfInBounds_toArray, List.set_cons_zero, List.set_cons_succ]
      clear ho5 ho6 hb I5 I6
      refine takeH (i := 4) (v := .tuple #[.agg #[.int .i64 R.2.step, .int .i64 R.2.phase, .bool R.2.fresh, .bool R.2.done, .slice a5 R.2.vals.length c5, .slice a6 R.2.mail.length c6], .int .i64 R.1]) (d := 12) rfl rfl (by kernel_rfl) (by kernel_rfl) (by kernel_rfl) (fun _ _ _ h => h) (by rfl) (fun V hV => by obtain ⟨⟨v1, v2, v3, v4⟩, u1, u2, u3, u4, u5, u6⟩ := hV; go_simp) HS_wn3.out ?_
      simp only [Act.put, List.setIfInBounds_toArray, List.set_cons_zero, List.set_cons_succ]
      refine takeH (i := 5) (v := .agg #[.int .i64 R.2.step, .int .i64 R.2.phase, .bool R.2.fresh, .bool R.2.done, .slice a5 R.2.vals.length c5, .slice a6 R.2.mail.length c6]) (d := 17) rfl rfl (by kernel_rfl) (by kernel_rfl) (by kernel_rfl) (fun _ _ _ h => h) (by rfl) (fun V hV => by obtain ⟨⟨v1, v2, v3, v4⟩, u1, u2, u3, u4, u5, u6⟩ := hV; go_simp) HS_wn3.out ?_
      simp only [Act.put, List.setIfInBounds_toArray, List.set_cons_zero, List.set_cons_succ]
      refine takeH (i := 6) (v := .int .i64 R.1) (d := 18) rfl rfl (by kernel_rfl) (by kernel_rfl) (by kernel_rfl) (fun _ _ _ h => h) (by rfl) (fun V hV => by obtain ⟨⟨v1, v2, v3, v4⟩, u1, u2, u3, u4, u5, u6⟩ := hV; go_simp) HS_wn3.out ?_
      simp only [Act.put, List.setIfInBounds_toArray, List.set_cons_zero, List.set_cons_succ]
      obtain ⟨⟨d0, d1, d2, d3, d4, d5⟩, e0, e1, e2, e3, e4, e5⟩ := NZ.out.all6
      have FB : Hid (Below w3.heap.size w3 (put6 wn3 (w3.heap.size) (.int .i64 R.2.step) (.int .i64 R.2.phase) (.bool R.2.fresh) (.bool R.2.done) (.slice a5 R.2.vals.length c5) (.slice a6 R.2.mail.length c6))) := below_put6 wn3_b LB.out NZ.out.lt _ _ _ _ _ _
      have HSF : Hid (((put6 wn3 (w3.heap.size) (.int .i64 R.2.step) (.int .i64 R.2.phase) (.bool R.2.fresh) (.bool R.2.done) (.slice a5 R.2.vals.length c5) (.slice a6 R.2.mail.length c6)).cell? ⟨w.heap.size, 0, none⟩ = some (.int .i64 n0) ∧ (put6 wn3 (w3.heap.size) (.int .i64 R.2.step) (.int .i64 R.2.phase) (.bool R.2.fresh) (.bool R.2.done) (.slice a5 R.2.vals.length c5) (.slice a6 R.2.mail.length c6)).cell? ⟨w.heap.size, 1, none⟩ = some (.slice a es0.length cap) ∧ (put6 wn3 (w3.heap.size) (.int .i64 R.2.step) (.int .i64 R.2.phase) (.bool R.2.fresh) (.bool R.2.done) (.slice a5 R.2.vals.length c5) (.slice a6 R.2.mail.length c6)).cell? ⟨w.heap.size, 2, none⟩ = some (.int .i64 kd0) ∧ (put6 wn3 (w3.heap.size) (.int .i64 R.2.step) (.int .i64 R.2.phase) (.bool R.2.fresh) (.bool R.2.done) (.slice a5 R.2.vals.length c5) (.slice a6 R.2.mail.length c6)).cell? ⟨w.heap.size, 3, none⟩ = some (.int .i64 sr0)) ∧ ((put6 wn3 (w3.heap.size) (.int .i64 R.2.step) (.int .i64 R.2.phase) (.bool R.2.fresh) (.bool R.2.done) (.slice a5 R.2.vals.length c5) (.slice a6 R.2.mail.length c6)).cell? ⟨b3, 0, none⟩ = some (.int .i64 T1.step) ∧ (put6 wn3 (w3.heap.size) (.int .i64 R.2.step) (.int .i64 R.2.phase) (.bool R.2.fresh) (.bool R.2.done) (.slice a5 R.2.vals.length c5) (.slice a6 R.2.mail.length c6)).cell? ⟨b3, 1, none⟩ = some (.int .i64 T1.phase) ∧ (put6 wn3 (w3.heap.size) (.int .i64 R.2.step) (.int .i64 R.2.phase) (.bool R.2.fresh) (.bool R.2.done) (.slice a5 R.2.vals.length c5) (.slice a6 R.2.mail.length c6)).cell? ⟨b3, 2, none⟩ = some (.bool T1.fresh) ∧ (put6 wn3 (w3.heap.size) (.int .i64 R.2.step) (.int .i64 R.2.phase) (.bool R.2.fresh) (.bool R.2.done) (.slice a5 R.2.vals.length c5) (.slice a6 R.2.mail.length c6)).cell? ⟨b3, 3, none⟩ = some (.bool T1.done) ∧ (put6 wn3 (w3.heap.size) (.int .i64 R.2.step) (.int .i64 R.2.phase) (.bool R.2.fresh) (.bool R.2.done) (.slice a5 R.2.vals.length c5) (.slice a6 R.2.mail.length c6)).cell? ⟨b3, 4, none⟩ = some (.slice vb T1.vals.length vd) ∧ (put6 wn3 (w3.heap.size) (.int .i64 R.2.step) (.int .i64 R.2.phase) (.bool R.2.fresh) (.bool R.2.done) (.slice a5 R.2.vals.length c5) (.slice a6 R.2.mail.length c6)).cell? ⟨b3, 5, none⟩ = some (.slice mb T1.mail.length md))) := KEEP.out _ FB.out
      have FX : Hid (BX 30 (put6 wn3 (w3.heap.size) (.int .i64 R.2.step) (.int .i64 R.2.phase) (.bool R.2.fresh) (.bool R.2.done) (.slice a5 R.2.vals.length c5) (.slice a6 R.2.mail.length c6)) (w3.heap.size) #[.int .i64 R.2.step, .int .i64 R.2.phase, .bool R.2.fresh, .bool R.2.done, .slice a5 R.2.vals.length c5, .slice a6 R.2.mail.length c6]) := NZ.out.put6
      have FV : Hid ((put6 wn3 (w3.heap.size) (.int .i64 R.2.step) (.int .i64 R.2.phase) (.bool R.2.fresh) (.bool R.2.done) (.slice a5 R.2.vals.length c5) (.slice a6 R.2.mail.length c6)).ownsRow w3.heap.size 59 2 (.slice a5 R.2.vals.length c5) R.2.vals.length (R.2.vals.flatMap encM)) := own_off OV.out NZ.out (by decide) (kept_put6 _ _ _ _ _ _ _ _)
      have FM : Hid (OwnLi (put6 wn3 (w3.heap.size) (.int .i64 R.2.step) (.int .i64 R.2.phase) (.bool R.2.fresh) (.bool R.2.done) (.slice a5 R.2.vals.length c5) (.slice a6 R.2.mail.length c6)) w3.heap.size (.slice a6 R.2.mail.length c6) R.2.mail) := OM.out.off NZ.out (by decide) (by decide) (kept_put6 _ _ _ _ _ _ _ _)
      refine oneH (i := 8) rfl (by kernel_rfl) rfl (op_skip (w' := (put6 wn3 (w3.heap.size) (.int .i64 R.2.step) (.int .i64 R.2.phase) (.bool R.2.fresh) (.bool R.2.done) (.slice a5 R.2.vals.length c5) (.slice a6 R.2.mail.length c6))) rfl (by unfold put6; go_simp) ⟨HSF.out, ?_⟩)
      refine takeH (i := 9) (v := .int .i64 R.1) (d := 7) rfl rfl (by kernel_rfl) (by kernel_rfl) (by kernel_rfl) (fun _ _ _ h => h) (by rfl) (fun V hV => by obtain ⟨⟨v1, v2, v3, v4⟩, u1, u2, u3, u4, u5, u6⟩ := hV; go_simp) HSF.out ?_
      simp only [Act.put, List.setIfInBounds_toArray, List.set_cons_zero, List.set_cons_succ]
      refine wpAnyH_done (by kernel_rfl) ?_ _
      exact HG.out aj cj a5 c5 a6 c6 _ _ FX FV FM FB LB
  case g =>
    intro aj cj a5 c5 a6 c6 bk w5 FX FV FM FB LB
    clear HS0 KEEP
    have A5 : Hid (Below W0.heap.size W0 w5) := A3.out.trans (FB.out.mono hs3)
    have X5 : Hid (BX 30 w5 b3 #[.int .i64 T1.step, .int .i64 T1.phase, .bool T1.fresh, .bool T1.done, .slice vb T1.vals.length vd, .slice mb T1.mail.length md]) := X3.out.below FB.out hl3
    have V5 : Hid (MlR w5 (.slice vb T1.vals.length vd) T1.vals ∧ LiR w5 (.slice mb T1.mail.length md) T1.mail) := ⟨V3.out.below FB.out (Nat.le_refl _), M3.out.below FB.out (Nat.le_refl _)⟩
    have N5 : Hid (MlR w5 (.slice a5 R.2.vals.length c5) R.2.vals ∧ LiR w5 (.slice a6 R.2.mail.length c6) R.2.mail) := ⟨RowK.own encM_len FV.out, FM.out.reads⟩
    obtain ⟨Q5, S5, _, e5, f5, g5⟩ := HK.out _ A5.out
    obtain ⟨q0, q1, q2, q3⟩ := Q5.all4
    obtain ⟨⟨c0, c1, c2, c3, c4, c5'⟩, _⟩ := S5.all6
    have CF : Hid (∀ X, X = w5 → _) := fun X (hX : X = w5) => HF.out w5 e5 f5 g5
    clear Q5 S5 e5 f5 g5 FV FM
    go_wp2_with fail
    refine (CF.out _ rfl).mono ?_
    rintro e w6 ⟨v7, v8, rfl, ho7, ho8, hb6⟩
    have I7 : MlR w6 v7 R.2.vals := RowK.own encM_len ho7
    have I8 : LiR w6 v8 R.2.mail := ho8.reads
    obtain ⟨a7, c7, rfl⟩ := I7.shape
    obtain ⟨a8, c8, rfl⟩ := ho8.shape
    have a6b : Below W0.heap.size W0 w6 := A5.out.trans (hb6.mono A5.out.size)
    have ba : ∀ o, Below w6.heap.size w6 (w6.alloc o) := fun o => below_alloc _ _
    have W7 : Hid (Below W0.heap.size W0 (w6.alloc (.cells #[.int .i64 R.2.step, .int .i64 R.2.phase, .bool R.2.fresh, .bool R.2.done, .slice a7 R.2.vals.length c7, .slice a8 R.2.mail.length c8] 30)) ∧ BX 30 (w6.alloc (.cells #[.int .i64 R.2.step, .int .i64 R.2.phase, .bool R.2.fresh, .bool R.2.done, .slice a7 R.2.vals.length c7, .slice a8 R.2.mail.length c8] 30)) w6.heap.size #[.int .i64 R.2.step, .int .i64 R.2.phase, .bool R.2.fresh, .bool R.2.done, .slice a7 R.2.vals.length c7, .slice a8 R.2.mail.length c8] ∧ BX 30 (w6.alloc (.cells #[.int .i64 R.2.step, .int .i64 R.2.phase, .bool R.2.fresh, .bool R.2.done, .slice a7 R.2.vals.length c7, .slice a8 R.2.mail.length c8] 30)) bk #[.int .i64 R.2.step, .int .i64 R.2.phase, .bool R.2.fresh, .bool R.2.done, .slice a5 R.2.vals.length c5, .slice a6 R.2.mail.length c6] ∧ BX 30 (w6.alloc (.cells #[.int .i64 R.2.step, .int .i64 R.2.phase, .bool R.2.fresh, .bool R.2.done, .slice a7 R.2.vals.length c7, .slice a8 R.2.mail.length c8] 30)) b3 #[.int .i64 T1.step, .int .i64 T1.phase, .bool T1.fresh, .bool T1.done, .slice vb T1.vals.length vd, .slice mb T1.mail.length md] ∧ (MlR (w6.alloc (.cells #[.int .i64 R.2.step, .int .i64 R.2.phase, .bool R.2.fresh, .bool R.2.done, .slice a7 R.2.vals.length c7, .slice a8 R.2.mail.length c8] 30)) (.slice a5 R.2.vals.length c5) R.2.vals ∧ LiR (w6.alloc (.cells #[.int .i64 R.2.step, .int .i64 R.2.phase, .bool R.2.fresh, .bool R.2.done, .slice a7 R.2.vals.length c7, .slice a8 R.2.mail.length c8] 30)) (.slice a6 R.2.mail.length c6) R.2.mail) ∧ (MlR (w6.alloc (.cells #[.int .i64 R.2.step, .int .i64 R.2.phase, .bool R.2.fresh, .bool R.2.done, .slice a7 R.2.vals.length c7, .slice a8 R.2.mail.length c8] 30)) (.slice a7 R.2.vals.length c7) R.2.vals ∧ LiR (w6.alloc (.cells #[.int .i64 R.2.step, .int .i64 R.2.phase, .bool R.2.fresh, .bool R.2.done, .slice a7 R.2.vals.length c7, .slice a8 R.2.mail.length c8] 30)) (.slice a8 R.2.mail.length c8) R.2.mail) ∧ MlR (w6.alloc (.cells #[.int .i64 R.2.step, .int .i64 R.2.phase, .bool R.2.fresh, .bool R.2.done, .slice a7 R.2.vals.length c7, .slice a8 R.2.mail.length c8] 30)) (.slice vb T1.vals.length vd) T1.vals ∧ LiR (w6.alloc (.cells #[.int .i64 R.2.step, .int .i64 R.2.phase, .bool R.2.fresh, .bool R.2.done, .slice a7 R.2.vals.length c7, .slice a8 R.2.mail.length c8] 30)) (.slice mb T1.mail.length md) T1.mail) := ⟨a6b.alloc a6b.size _, BX.new _ _ _, (FX.out.below hb6 FX.out.lt).below (ba _) (FX.out.below hb6 FX.out.lt).lt, (X5.out.below hb6 X5.out.lt).below (ba _) (X5.out.below hb6 X5.out.lt).lt, ⟨(N5.out.1.below hb6 (Nat.le_refl _)).below (ba _) (Nat.le_refl _), (N5.out.2.below hb6 (Nat.le_refl _)).below (ba _) (Nat.le_refl _)⟩, ⟨I7.below (ba _) (Nat.le_refl _), I8.below (ba _) (Nat.le_refl _)⟩, (V5.out.1.below hb6 (Nat.le_refl _)).below (ba _) (Nat.le_refl _), (V5.out.2.below hb6 (Nat.le_refl _)).below (ba _) (Nat.le_refl _)⟩
    clear q0 q1 q2 q3 c0 c1 c2 c3 c4 c5' ho7 ho8 hb6 I7 I8 a6b ba
    go_upto_region 4 with fail
    generalize w6.alloc (.cells #[.int .i64 R.2.step, .int .i64 R.2.phase, .bool R.2.fresh, .bool R.2.done, .slice a7 R.2.vals.length c7, .slice a8 R.2.mail.length c8] 30) = w7 at *
    generalize w6.heap.size = b7 at *
    obtain ⟨A7, Y7, X7, Z7, N7, P7, V7⟩ := W7.out
    have A7H : Hid (Below W0.heap.size W0 w7) := A7
    have Z7H : Hid (BX 30 w7 b3 #[.int .i64 T1.step, .int .i64 T1.phase, .bool T1.fresh, .bool T1.done, .slice vb T1.vals.length vd, .slice mb T1.mail.length md]) := Z7
    have V7H : Hid (MlR w7 (.slice vb T1.vals.length vd) T1.vals ∧ LiR w7 (.slice mb T1.mail.length md) T1.mail) := V7
    have CI : Hid (∀ X, X = w7 → _) := fun X (_ : X = w7) => sameState_yes R.2 _ _ _ _ w7 N7.1 P7.1 N7.2 P7.2
    obtain ⟨⟨x0, x1, x2, x3, x4, x5⟩, _⟩ := X7.all6
    obtain ⟨⟨y0, y1, y2, y3, y4, y5⟩, _⟩ := Y7.all6
    clear A7 Y7 X7 Z7 N7 P7 V7 W7 CF
    go_wp2_with fail
    refine (CI.out _ rfl).mono ?_
    rintro e w8 ⟨rfl, hb8⟩
    have A8 : Hid (Below W0.heap.size W0 w8) := A7H.out.trans (hb8.mono A7H.out.size)
    have x8 := Z7H.out.below hb8 Z7H.out.lt
    obtain ⟨_, S8, b8, _, f8, g8⟩ := HK.out _ A8.out
    have CS : Hid (∀ X, X = w8 → _) := fun X (_ : X = w8) => sameState_yes T1 _ _ _ _ w8 (V7H.out.1.below hb8 (Nat.le_refl _)) f8 (V7H.out.2.below hb8 (Nat.le_refl _)) g8
    have B8 : Hid (Below w.heap.size w w8) := b8
    clear x0 x1 x2 x3 x4 x5 y0 y1 y2 y3 y4 y5
    obtain ⟨⟨x0, x1, x2, x3, x4, x5⟩, _⟩ := x8.all6
    obtain ⟨⟨y0, y1, y2, y3, y4, y5⟩, _⟩ := S8.all6
    clear x8 S8 b8 f8 g8 hb8
    go_wp2_with fail
    refine (CS.out _ rfl).mono ?_
    rintro e w9 ⟨rfl, hb9⟩
    have B9 : Hid (Below w.heap.size w w9) := B8.out.trans (hb9.mono B8.out.size)
    clear x0 x1 x2 x3 x4 x5 y0 y1 y2 y3 y4 y5 hb9
    go_wp2_with fail
    go_ret
    exact ⟨rfl, B9.out⟩

set_option maxHeartbeats 400000 in
set_option maxRecDepth 100000 in
theorem lifted (os : Os) (started : os.Started) (H : Type) (enc : TypeId × Value → H) :
    ReturnsInHanded {} Try.checked os 3 .any (Rows.roundsNextsSpec.pre6 enc Try.prog Try.f3 Rows.roundsNextsRow.domain false) (Rows.roundsNextsSpec.post enc Try.prog Try.f3 false true false false) := by
  refine returnsInHanded_of_change_sized (C := Try.checked) own started (by kernel_rfl) Try.func3
    (ChangeSpec.witness6 (enc := enc) (C := Try.checked) false ⟨#[], #[.agg #[.int .i64 0, .slice none 0 0, .int .i64 0, .int .i64 0], .agg #[.int .i64 0, .int .i64 0, .bool false, .bool false, .slice none 0 0, .slice none 0 0]], []⟩ 8 (by kernel_rfl) (by kernel_rfl) (by kernel_rfl) (by kernel_rfl)) ?_
  intro W base args ds gs before hval0 hW _ hsz0 _
  have hval : ∀ (j : Nat) t v, Try.f3.params[j]? = some t → args[j]? = some v → Value.okWide Try.prog W .any base t v := hval0
  have hW' := hW
  obtain ⟨p, q, hA0, hV, rfl, hfz, hnd⟩ := hW
  have hA : DataW.TrodAll enc Try.prog W 0 (fun _ => true) true Try.f3.params.toList args.toList ds p := hA0
  have hsz : (DataW.weightsEach Try.prog (Try.f3.params.toList ++ Rows.roundsNextsSpec.plain.varTypes Try.prog) (ds ++ gs)).all (fun x => decide (x ≤ reachBytes)) = true := hsz0
  rw [Try.params3] at hA hval hsz
  obtain ⟨v0, vs0, d0, ds0, p0, q0, hargs, rfl, rfl, h0, r0⟩ := trodAll_cons hA
  obtain ⟨v1, vs1, d1, ds1, p1, q1, rfl, rfl, rfl, h1, r1⟩ := trodAll_cons r0
  obtain ⟨rfl, rfl, rfl⟩ := trodAll_nil r1
  obtain rfl : args = #[v0, v1] := by cases args; simp_all
  obtain ⟨rfl, rfl⟩ := trodVars_none hV
  have k0 := h0
  have lt0 : ∀ x ∈ p0, x.block < W.heap.size := by obtain ⟨m, hm⟩ := k0; exact DataW.trod_lt m _ _ _ hm
  have hw0 : ∀ m ∈ d0.weights Try.prog 26, m ≤ reachBytes := fun m hm => by simpa using List.all_eq_true.1 hsz _ (DataW.weights_mem_each (j := 0) (t := 26) rfl rfl m hm)
  have k1 := h1
  have lt1 : ∀ x ∈ p1, x.block < W.heap.size := by obtain ⟨m, hm⟩ := k1; exact DataW.trod_lt m _ _ _ hm
  have hw1 : ∀ m ∈ d1.weights Try.prog 30, m ≤ reachBytes := fun m hm => by simpa using List.all_eq_true.1 hsz _ (DataW.weights_mem_each (j := 1) (t := 30) rfl rfl m hm)
  obtain ⟨n0, w0, kd0, sr0, es0, rfl, hN0, hR0, hB0, hL0⟩ := open_job (okWide_struct Try.underlying26 (hval 0 26 v0 rfl rfl)) h0 hw0
  obtain ⟨T1, vv1, vm1, rfl, hN1, hV1, hM1, hB1⟩ := open_state (okWide_struct Try.underlying30 (hval 1 30 v1 rfl rfl)) h1 hw1
  clear hA0 hval0
  refine (walk w0 n0 kd0 sr0 es0 T1 vv1 vm1 W hN0 hR0 hB0 hL0 hN1 hV1 hM1 hB1).mono fun e W' ⟨he, bel⟩ => ?_
  subst he
  exact ⟨_, rfl, _, _, _, [], _, [], hW', trodAll_mk1 (shut_bool Try.underlying4 _), (trodAll_cons_mk (Below.trod laidOut (by kernel_rfl) (of_decide_eq_true (by kernel_rfl)) k0 bel lt0) (trodAll_cons_mk (Below.trod laidOut (by kernel_rfl) (of_decide_eq_true (by kernel_rfl)) k1 bel lt1) trodAll_mk0)), rfl, bel.frame _, fun h => by cases h⟩

theorem over : Rows.roundsNextsRow.holds Try.pinned (OpenSpec.ofChange Rows.roundsNextsSpec) :=
  OpenClaim.holds_of_wide 3 Try.f3 rfl rfl rfl rfl rfl rfl rfl ⟨rfl, rfl, rfl, rfl, rfl⟩ rfl rfl rfl rfl rfl (by kernel_rfl) Try.func3 (by kernel_rfl)
    (of_decide_eq_true (by kernel_rfl)) (by unfold Func.isWrapper; first | (rw [if_pos (by decide +kernel)]; kernel_rfl) | (rw [if_neg (by decide +kernel)]; exact ⟨rfl, rfl⟩))
    (fun os started H enc _ => lifted os started H enc)

/-- The statement. -/
theorem proved : Rows.RoundsNextsSaid := over
#print axioms proved
end Go.Proofs.Ytbmkgnlfccigpaa.roundsNexts
