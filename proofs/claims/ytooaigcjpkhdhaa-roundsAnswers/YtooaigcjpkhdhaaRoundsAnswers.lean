/-
  For every job and state rounds.Answer answers what P13.7 says and leaves its arguments alone (the law RoundsAnswers returns true, and its arguments read as before); no condition.
-/
import Derived.Test.YtooaigcjpkhdhaaJobOpen
import Derived.Test.YtooaigcjpkhdhaaJobCopy
import Derived.Test.YtooaigcjpkhdhaaStaDup
import Derived.Test.YtooaigcjpkhdhaaRoundsAnswersPartA
import Derived.WalkKit
import Derived.ProofKit
import Derived.OpenShut
import Derived.ShutString
import Derived.SizedLaws
import Derived.ChangeOld
import Derived.Below
namespace Go.Proofs.Ytooaigcjpkhdhaa.roundsAnswers
set_option maxRecDepth 100000
open Go.ChangeShapes Go.WideShapes Go.ChangeAt Go.RowKit

theorem own : ownKnob Try.prog.godebug = none := by kernel_rfl
theorem laidOut : laidOutB Try.prog = true := by kernel_rfl

set_option maxHeartbeats 1000000 in
set_option maxRecDepth 100000 in
theorem walk (v0 : Value) (n0 kd0 sr0 : Int) (es0 : List Ed) (T1 : StS) (vv1 vm1 : Value) (w : World) (hN0 : i64B n0 ∧ i64B kd0 ∧ i64B sr0) (hR0 : EdR w v0 es0) (hB0 : ∀ x ∈ es0, edB x) (hL0 : es0.length * 24 ≤ 140737488351232) (hN1 : i64B T1.step ∧ i64B T1.phase) (hV1 : MlR w vv1 T1.vals) (hM1 : LiR w vm1 T1.mail) (hB1 : StaB T1) :
    Calls Try.prog 7 #[.agg #[.int .i64 n0, v0, .int .i64 kd0, .int .i64 sr0], .agg #[.int .i64 T1.step, .int .i64 T1.phase, .bool T1.fresh, .bool T1.done, vv1, vm1]] w fun e w' => e = .returned (.bool true) ∧ Below w.heap.size w w' := by
  have _u := hN0
  clear _u
  have _u := hR0
  clear _u
  have _u := hB0
  clear _u
  have _u := hL0
  clear _u
  have _u := hN1
  clear _u
  have _u := hV1
  clear _u
  have _u := hM1
  clear _u
  have _u := hB1
  clear _u
  have HR : Hid (EdR w v0 es0) := hR0
  have HV : Hid (MlR w vv1 T1.vals) := hV1
  have HM : Hid (LiR w vm1 T1.mail) := hM1
  obtain ⟨a, cap, rfl⟩ := hR0.shape
  obtain ⟨va, vc, rfl⟩ := hV1.shape
  obtain ⟨ma, mc, rfl, _, _, _⟩ := hM1
  have HML : Hid (∀ l ∈ T1.mail, l.length ≤ 140737488355328) := fun l hl => by have := (hB1.2.1 l hl).2; omega
  have HJ : Hid (∀ X, EdR X (.slice a es0.length cap) es0 → Calls Try.prog 10 #[.agg #[.int .i64 n0, .slice a es0.length cap, .int .i64 kd0, .int .i64 sr0]] X fun e w' => ∃ v, e = .returned v ∧ (∃ v', v = .agg #[.int .i64 n0, v', .int .i64 kd0, .int .i64 sr0] ∧ EdR w' v' es0 ∧ Below X.heap.size X w')) := fun X hX => (jobs_any _ es0 n0 kd0 sr0 X hX hL0).mono fun e w' ⟨v', h1, h2⟩ => ⟨_, h1, v', rfl, h2⟩
  have HD : Hid (∀ X, MlR X (.slice va T1.vals.length vc) T1.vals → LiR X (.slice ma T1.mail.length mc) T1.mail → _) := fun X h1 h2 => states_any T1 _ _ X h1 h2 hB1
  have HF : Hid (∀ X, EdR X (.slice a es0.length cap) es0 → MlR X (.slice va T1.vals.length vc) T1.vals → LiR X (.slice ma T1.mail.length mc) T1.mail → Calls Try.prog 21 #[.agg #[.int .i64 n0, .slice a es0.length cap, .int .i64 kd0, .int .i64 sr0], .agg #[.int .i64 T1.step, .int .i64 T1.phase, .bool T1.fresh, .bool T1.done, .slice va T1.vals.length vc, .slice ma T1.mail.length mc]] X (NumP X (ansE n0 es0 kd0 sr0 T1))) := fun X h1 h2 h3 => answered_any _ es0 n0 kd0 sr0 T1 _ _ X h1 h2 h3 HML.out
  have HC : Hid (∀ X v' v1 v2, EdR X v' es0 → MlR X v1 T1.vals → LiR X v2 T1.mail → Calls Try.prog 20 #[.agg #[.int .i64 n0, v', .int .i64 kd0, .int .i64 sr0], .agg #[.int .i64 T1.step, .int .i64 T1.phase, .bool T1.fresh, .bool T1.done, v1, v2]] X fun e w' => ∃ v, e = .returned v ∧ (∃ v', v = .tuple #[v', .int .i64 (ansE n0 es0 kd0 sr0 T1).1] ∧ w'.ownsRow X.heap.size 3 1 v' (ansE n0 es0 kd0 sr0 T1).2.length ((ansE n0 es0 kd0 sr0 T1).2.flatMap encI) ∧ Below X.heap.size X w')) := fun X v' v1 v2 h1 h2 h3 => (rAnswer_any v' es0 n0 kd0 sr0 T1 v1 v2 X h1 h2 h3).mono fun e w' ⟨v', h1, h2⟩ => ⟨_, h1, v', rfl, h2⟩
  obtain ⟨W0, hW0⟩ : ∃ W0, W0 = (w.alloc (.cells #[.int .i64 n0, .slice a es0.length cap, .int .i64 kd0, .int .i64 sr0] 26)).alloc (.cells #[.int .i64 T1.step, .int .i64 T1.phase, .bool T1.fresh, .bool T1.done, .slice va T1.vals.length vc, .slice ma T1.mail.length mc] 34) := ⟨_, rfl⟩
  obtain ⟨Q0, S0, B0, s1, s2⟩ := boxes2 w #[.int .i64 n0, .slice a es0.length cap, .int .i64 kd0, .int .i64 sr0] #[.int .i64 T1.step, .int .i64 T1.phase, .bool T1.fresh, .bool T1.done, .slice va T1.vals.length vc, .slice ma T1.mail.length mc] 26 34 W0 hW0
  have BH : Hid (Below w.heap.size w W0) := B0
  have HK : Hid (∀ X, Below W0.heap.size W0 X → BX 26 X w.heap.size #[.int .i64 n0, .slice a es0.length cap, .int .i64 kd0, .int .i64 sr0] ∧ BX 34 X (w.heap.size + 1) #[.int .i64 T1.step, .int .i64 T1.phase, .bool T1.fresh, .bool T1.done, .slice va T1.vals.length vc, .slice ma T1.mail.length mc] ∧ Below w.heap.size w X ∧ EdR X (.slice a es0.length cap) es0 ∧ MlR X (.slice va T1.vals.length vc) T1.vals ∧ LiR X (.slice ma T1.mail.length mc) T1.mail) := fun X hX => by
    have hb := BH.out.trans (hX.mono (show w.heap.size ≤ W0.heap.size by omega))
    exact ⟨Q0.below hX (by omega), S0.below hX (by omega), hb, HR.out.below hb (Nat.le_refl _), HV.out.below hb (Nat.le_refl _), HM.out.below hb (Nat.le_refl _)⟩
  have A0 : Hid (Below W0.heap.size W0 W0) := Below.refl _ _
  obtain ⟨⟨c0, c1, c2, c3, c4, c5⟩, _⟩ := S0.all6
  clear hR0 hB0 Q0 S0 B0 hV1 hB1
  generalize ansE n0 es0 kd0 sr0 T1 = R at *
  have te : (R.1 == R.1) = true := by simp
  go_enter Try.func7, Try.ntmps7
  go_upto_region 1 with fail
  rw [← hW0]
  clear hW0
  go_wp2_with fail
  refine (HD.out _ (HK.out _ A0.out).2.2.2.2.1 (HK.out _ A0.out).2.2.2.2.2).mono ?_
  rintro e w1 ⟨u1, u2, rfl, hu1, hu2, hb1⟩
  have V1 : MlR w1 u1 T1.vals := RowK.own encM_len hu1
  have M1 : LiR w1 u2 T1.mail := hu2.reads
  obtain ⟨vb, vd, rfl⟩ := V1.shape
  obtain ⟨mb, md, rfl⟩ := hu2.shape
  have hs1 := hb1.size
  have W1 : Hid (Below W0.heap.size W0 (w1.alloc (.cells #[.int .i64 T1.step, .int .i64 T1.phase, .bool T1.fresh, .bool T1.done, .slice vb T1.vals.length vd, .slice mb T1.mail.length md] 34)) ∧ BX 34 (w1.alloc (.cells #[.int .i64 T1.step, .int .i64 T1.phase, .bool T1.fresh, .bool T1.done, .slice vb T1.vals.length vd, .slice mb T1.mail.length md] 34)) w1.heap.size #[.int .i64 T1.step, .int .i64 T1.phase, .bool T1.fresh, .bool T1.done, .slice vb T1.vals.length vd, .slice mb T1.mail.length md] ∧ MlR (w1.alloc (.cells #[.int .i64 T1.step, .int .i64 T1.phase, .bool T1.fresh, .bool T1.done, .slice vb T1.vals.length vd, .slice mb T1.mail.length md] 34)) (.slice vb T1.vals.length vd) T1.vals ∧ LiR (w1.alloc (.cells #[.int .i64 T1.step, .int .i64 T1.phase, .bool T1.fresh, .bool T1.done, .slice vb T1.vals.length vd, .slice mb T1.mail.length md] 34)) (.slice mb T1.mail.length md) T1.mail ∧ W0.heap.size ≤ w1.heap.size) := ⟨hb1.alloc hs1 _, BX.new _ _ _, V1.below (below_alloc _ _) (Nat.le_refl _), M1.below (below_alloc _ _) (Nat.le_refl _), hs1⟩
  clear hu1 hu2 hb1 V1 M1 c0 c1 c2 c3 c4 c5 hs1
  go_upto_region 2 with fail
  generalize w1.alloc (.cells #[.int .i64 T1.step, .int .i64 T1.phase, .bool T1.fresh, .bool T1.done, .slice vb T1.vals.length vd, .slice mb T1.mail.length md] 34) = w3 at *
  generalize w1.heap.size = b3 at *
  obtain ⟨A3', X3', V3', M3', hb3⟩ := W1.out
  have A3 : Hid (Below W0.heap.size W0 w3) := A3'
  have X3 : Hid (BX 34 w3 b3 #[.int .i64 T1.step, .int .i64 T1.phase, .bool T1.fresh, .bool T1.done, .slice vb T1.vals.length vd, .slice mb T1.mail.length md]) := X3'
  have V3 : Hid (MlR w3 (.slice vb T1.vals.length vd) T1.vals) := V3'
  have M3 : Hid (LiR w3 (.slice mb T1.mail.length md) T1.mail) := M3'
  clear A3' X3' V3' M3' W1
  have hs3 := A3.out.size
  have hl3 := X3.out.lt
  have KEEP : Hid (∀ V, Below w3.heap.size w3 V → ((V.cell? ⟨w.heap.size, 0, none⟩ = some (.int .i64 n0) ∧ V.cell? ⟨w.heap.size, 1, none⟩ = some (.slice a es0.length cap) ∧ V.cell? ⟨w.heap.size, 2, none⟩ = some (.int .i64 kd0) ∧ V.cell? ⟨w.heap.size, 3, none⟩ = some (.int .i64 sr0)) ∧ (V.cell? ⟨b3, 0, none⟩ = some (.int .i64 T1.step) ∧ V.cell? ⟨b3, 1, none⟩ = some (.int .i64 T1.phase) ∧ V.cell? ⟨b3, 2, none⟩ = some (.bool T1.fresh) ∧ V.cell? ⟨b3, 3, none⟩ = some (.bool T1.done) ∧ V.cell? ⟨b3, 4, none⟩ = some (.slice vb T1.vals.length vd) ∧ V.cell? ⟨b3, 5, none⟩ = some (.slice mb T1.mail.length md)))) := fun V hV => ⟨(HK.out _ (A3.out.trans (hV.mono hs3))).1.all4, (X3.out.below hV hl3).all6.1⟩
  have b0 : Below w3.heap.size w3 w3.drew := (Below.refl _ _).drew
  have HS0 : Hid ((w3.drew.cell? ⟨w.heap.size, 0, none⟩ = some (.int .i64 n0) ∧ w3.drew.cell? ⟨w.heap.size, 1, none⟩ = some (.slice a es0.length cap) ∧ w3.drew.cell? ⟨w.heap.size, 2, none⟩ = some (.int .i64 kd0) ∧ w3.drew.cell? ⟨w.heap.size, 3, none⟩ = some (.int .i64 sr0)) ∧ (w3.drew.cell? ⟨b3, 0, none⟩ = some (.int .i64 T1.step) ∧ w3.drew.cell? ⟨b3, 1, none⟩ = some (.int .i64 T1.phase) ∧ w3.drew.cell? ⟨b3, 2, none⟩ = some (.bool T1.fresh) ∧ w3.drew.cell? ⟨b3, 3, none⟩ = some (.bool T1.done) ∧ w3.drew.cell? ⟨b3, 4, none⟩ = some (.slice vb T1.vals.length vd) ∧ w3.drew.cell? ⟨b3, 5, none⟩ = some (.slice mb T1.mail.length md))) := KEEP.out w3.drew b0
  have ej : ∀ args w, (callFunc 10 args).run Try.prog w = .ok (.enter 10 args) w := enters_of Try.func10 (by kernel_rfl) rfl
  have en : ∀ args w, (callFunc 20 args).run Try.prog w = .ok (.enter 20 args) w := enters_of Try.func20 (by kernel_rfl) rfl
  refine wp_region_held (S := fun V => ((V.cell? ⟨w.heap.size, 0, none⟩ = some (.int .i64 n0) ∧ V.cell? ⟨w.heap.size, 1, none⟩ = some (.slice a es0.length cap) ∧ V.cell? ⟨w.heap.size, 2, none⟩ = some (.int .i64 kd0) ∧ V.cell? ⟨w.heap.size, 3, none⟩ = some (.int .i64 sr0)) ∧ (V.cell? ⟨b3, 0, none⟩ = some (.int .i64 T1.step) ∧ V.cell? ⟨b3, 1, none⟩ = some (.int .i64 T1.phase) ∧ V.cell? ⟨b3, 2, none⟩ = some (.bool T1.fresh) ∧ V.cell? ⟨b3, 3, none⟩ = some (.bool T1.done) ∧ V.cell? ⟨b3, 4, none⟩ = some (.slice vb T1.vals.length vd) ∧ V.cell? ⟨b3, 5, none⟩ = some (.slice mb T1.mail.length md)))) (by kernel_rfl) ?_
  simp only [List.size_toArray, List.length_cons, List.length_nil, Nat.reduceAdd]
  refine takeH (i := 0) (v := .agg #[.int .i64 n0, .slice a es0.length cap, .int .i64 kd0, .int .i64 sr0]) (d := 13) rfl rfl (by kernel_rfl) (by kernel_rfl) (by kernel_rfl) (fun _ _ _ h => h) (by rfl) (fun V hV => by obtain ⟨⟨v1, v2, v3, v4⟩, u1, u2, u3, u4, u5, u6⟩ := hV; go_simp) HS0.out ?_
  simp only [Act.put, List.setIfInBounds_toArray, List.set_cons_zero, List.set_cons_succ]
  refine takeH (i := 2) (v := .agg #[.int .i64 T1.step, .int .i64 T1.phase, .bool T1.fresh, .bool T1.done, .slice vb T1.vals.length vd, .slice mb T1.mail.length md]) (d := 15) rfl rfl (by kernel_rfl) (by kernel_rfl) (by kernel_rfl) (fun _ _ _ h => h) (by rfl) (fun V hV => by obtain ⟨⟨v1, v2, v3, v4⟩, u1, u2, u3, u4, u5, u6⟩ := hV; go_simp) HS0.out ?_
  simp only [Act.put, List.setIfInBounds_toArray, List.set_cons_zero, List.set_cons_succ]
  refine oneH (i := 1) rfl (by kernel_rfl) rfl (call_gets (d := 14) (f := 10) (xs := #[.tmp 13]) (ats := #[26]) rfl rfl ej (vs := #[.agg #[.int .i64 n0, .slice a es0.length cap, .int .i64 kd0, .int .i64 sr0]]) (by simp [Act.eval]) (HJ.out w3.drew (HK.out _ (A3.out.trans (Below.mono (b0) hs3))).2.2.2.1) ?_)
  rintro vr w4 ⟨v', rfl, hv', hb⟩
  have w4_b : Below w3.heap.size w3 w4 := (b0).trans (hb.mono (Below.size (b0)))
  have EV : Hid (EdR w4 v' es0) := hv'
  obtain ⟨aj, cj, rfl⟩ := hv'.shape
  have HS_w4 : Hid ((w4.cell? ⟨w.heap.size, 0, none⟩ = some (.int .i64 n0) ∧ w4.cell? ⟨w.heap.size, 1, none⟩ = some (.slice a es0.length cap) ∧ w4.cell? ⟨w.heap.size, 2, none⟩ = some (.int .i64 kd0) ∧ w4.cell? ⟨w.heap.size, 3, none⟩ = some (.int .i64 sr0)) ∧ (w4.cell? ⟨b3, 0, none⟩ = some (.int .i64 T1.step) ∧ w4.cell? ⟨b3, 1, none⟩ = some (.int .i64 T1.phase) ∧ w4.cell? ⟨b3, 2, none⟩ = some (.bool T1.fresh) ∧ w4.cell? ⟨b3, 3, none⟩ = some (.bool T1.done) ∧ w4.cell? ⟨b3, 4, none⟩ = some (.slice vb T1.vals.length vd) ∧ w4.cell? ⟨b3, 5, none⟩ = some (.slice mb T1.mail.length md))) := KEEP.out w4 w4_b
  refine ⟨HS_w4.out, ?_⟩
  simp only [Act.put, List.setIfInBounds_toArray, List.set_cons_zero, List.set_cons_succ]
  clear hv' hb
  refine oneH (i := 3) rfl (by kernel_rfl) rfl (call_gets (d := 16) (f := 20) (xs := #[.tmp 14, .tmp 15]) (ats := #[26, 34]) rfl rfl en (vs := #[.agg #[.int .i64 n0, .slice aj es0.length cj, .int .i64 kd0, .int .i64 sr0], .agg #[.int .i64 T1.step, .int .i64 T1.phase, .bool T1.fresh, .bool T1.done, .slice vb T1.vals.length vd, .slice mb T1.mail.length md]]) (by simp [Act.eval]) (HC.out w4 _ _ _ EV.out (V3.out.below w4_b (Nat.le_refl _)) (M3.out.below w4_b (Nat.le_refl _))) ?_)
  rintro vr w5 ⟨v5, rfl, ho5, hb5⟩
  have w5_b : Below w3.heap.size w3 w5 := w4_b.trans (hb5.mono w4_b.size)
  have I5 : Hid (InR w5 v5 R.2) := RowK.own encI_len ho5
  obtain ⟨a5, c5, rfl⟩ := I5.out.shape
  have HS_w5 : Hid ((w5.cell? ⟨w.heap.size, 0, none⟩ = some (.int .i64 n0) ∧ w5.cell? ⟨w.heap.size, 1, none⟩ = some (.slice a es0.length cap) ∧ w5.cell? ⟨w.heap.size, 2, none⟩ = some (.int .i64 kd0) ∧ w5.cell? ⟨w.heap.size, 3, none⟩ = some (.int .i64 sr0)) ∧ (w5.cell? ⟨b3, 0, none⟩ = some (.int .i64 T1.step) ∧ w5.cell? ⟨b3, 1, none⟩ = some (.int .i64 T1.phase) ∧ w5.cell? ⟨b3, 2, none⟩ = some (.bool T1.fresh) ∧ w5.cell? ⟨b3, 3, none⟩ = some (.bool T1.done) ∧ w5.cell? ⟨b3, 4, none⟩ = some (.slice vb T1.vals.length vd) ∧ w5.cell? ⟨b3, 5, none⟩ = some (.slice mb T1.mail.length md))) := KEEP.out w5 w5_b
  refine ⟨HS_w5.out, ?_⟩
  simp only [Act.put, List.setIfInBounds_toArray, List.set_cons_zero, List.set_cons_succ]
  refine takeH (i := 4) (v := .tuple #[.slice a5 R.2.length c5, .int .i64 R.1]) (d := 12) rfl rfl (by kernel_rfl) (by kernel_rfl) (by kernel_rfl) (fun _ _ _ h => h) (by rfl) (fun V hV => by obtain ⟨⟨v1, v2, v3, v4⟩, u1, u2, u3, u4, u5, u6⟩ := hV; go_simp) HS_w5.out ?_
  simp only [Act.put, List.setIfInBounds_toArray, List.set_cons_zero, List.set_cons_succ]
  refine takeH (i := 5) (v := .slice a5 R.2.length c5) (d := 17) rfl rfl (by kernel_rfl) (by kernel_rfl) (by kernel_rfl) (fun _ _ _ h => h) (by rfl) (fun V hV => by obtain ⟨⟨v1, v2, v3, v4⟩, u1, u2, u3, u4, u5, u6⟩ := hV; go_simp) HS_w5.out ?_
  simp only [Act.put, List.setIfInBounds_toArray, List.set_cons_zero, List.set_cons_succ]
  refine takeH (i := 6) (v := .int .i64 R.1) (d := 18) rfl rfl (by kernel_rfl) (by kernel_rfl) (by kernel_rfl) (fun _ _ _ h => h) (by rfl) (fun V hV => by obtain ⟨⟨v1, v2, v3, v4⟩, u1, u2, u3, u4, u5, u6⟩ := hV; go_simp) HS_w5.out ?_
  simp only [Act.put, List.setIfInBounds_toArray, List.set_cons_zero, List.set_cons_succ]
  refine takeH (i := 7) (v := .slice a5 R.2.length c5) (d := 6) rfl rfl (by kernel_rfl) (by kernel_rfl) (by kernel_rfl) (fun _ _ _ h => h) (by rfl) (fun V hV => by obtain ⟨⟨v1, v2, v3, v4⟩, u1, u2, u3, u4, u5, u6⟩ := hV; go_simp) HS_w5.out ?_
  simp only [Act.put, List.setIfInBounds_toArray, List.set_cons_zero, List.set_cons_succ]
  refine takeH (i := 8) (v := .int .i64 R.1) (d := 7) rfl rfl (by kernel_rfl) (by kernel_rfl) (by kernel_rfl) (fun _ _ _ h => h) (by rfl) (fun V hV => by obtain ⟨⟨v1, v2, v3, v4⟩, u1, u2, u3, u4, u5, u6⟩ := hV; go_simp) HS_w5.out ?_
  simp only [Act.put, List.setIfInBounds_toArray, List.set_cons_zero, List.set_cons_succ]
  refine wpAnyH_done (by kernel_rfl) ?_ _
  have A5 : Hid (Below W0.heap.size W0 w5) := A3.out.trans (w5_b.mono hs3)
  have X5 : Hid (BX 34 w5 b3 #[.int .i64 T1.step, .int .i64 T1.phase, .bool T1.fresh, .bool T1.done, .slice vb T1.vals.length vd, .slice mb T1.mail.length md]) := X3.out.below w5_b hl3
  have V5 : Hid (MlR w5 (.slice vb T1.vals.length vd) T1.vals ∧ LiR w5 (.slice mb T1.mail.length md) T1.mail) := ⟨V3.out.below w5_b (Nat.le_refl _), M3.out.below w5_b (Nat.le_refl _)⟩
  clear HS_w5 HS_w4 HS0 KEEP EV ho5 hb5 w5_b w4_b
  obtain ⟨Q5, S5, _, e5, f5, g5⟩ := HK.out _ A5.out
  obtain ⟨q0, q1, q2, q3⟩ := Q5.all4
  obtain ⟨⟨c0, c1, c2, c3, c4, c5'⟩, _⟩ := S5.all6
  have CF : Hid (∀ X, X = w5 → _) := fun X (hX : X = w5) => HF.out w5 e5 f5 g5
  clear Q5 S5 e5 f5 g5
  go_wp2_with fail
  refine (CF.out _ rfl).mono ?_
  rintro e w6 ⟨v6, rfl, ho6, hb6⟩
  have I6 : Hid (InR w6 v6 R.2) := RowK.own encI_len ho6
  obtain ⟨a6, c6, rfl⟩ := I6.out.shape
  have I7 : Hid (InR w6 (.slice a5 R.2.length c5) R.2) := I5.out.below hb6 (Nat.le_refl _)
  have A6 : Hid (Below W0.heap.size W0 w6) := A5.out.trans (hb6.mono A5.out.size)
  have X6 : Hid (BX 34 w6 b3 #[.int .i64 T1.step, .int .i64 T1.phase, .bool T1.fresh, .bool T1.done, .slice vb T1.vals.length vd, .slice mb T1.mail.length md]) := X5.out.below hb6 X5.out.lt
  have V6 : Hid (MlR w6 (.slice vb T1.vals.length vd) T1.vals ∧ LiR w6 (.slice mb T1.mail.length md) T1.mail) := ⟨V5.out.1.below hb6 (Nat.le_refl _), V5.out.2.below hb6 (Nat.le_refl _)⟩
  clear q0 q1 q2 q3 c0 c1 c2 c3 c4 c5' ho6 hb6
  have CI : Hid (∀ X, X = w6 → _) := fun X (_ : X = w6) => sameInts_yes _ _ R.2 w6 I7.out I6.out
  go_wp2_with fail
  refine (CI.out _ rfl).mono ?_
  rintro e w7 ⟨rfl, hb7⟩
  have A7 : Hid (Below W0.heap.size W0 w7) := A6.out.trans (hb7.mono A6.out.size)
  have x7 := X6.out.below hb7 X6.out.lt
  obtain ⟨_, S7, b7, _, f7, g7⟩ := HK.out _ A7.out
  have CS : Hid (∀ X, X = w7 → _) := fun X (_ : X = w7) => sameState_yes T1 _ _ _ _ w7 (V6.out.1.below hb7 (Nat.le_refl _)) f7 (V6.out.2.below hb7 (Nat.le_refl _)) g7
  have B7 : Hid (Below w.heap.size w w7) := b7
  obtain ⟨⟨x0, x1, x2, x3, x4, x5⟩, _⟩ := x7.all6
  obtain ⟨⟨y0, y1, y2, y3, y4, y5⟩, _⟩ := S7.all6
  clear x7 S7 b7 f7 g7 hb7
  go_wp2_with fail
  refine (CS.out _ rfl).mono ?_
  rintro e w8 ⟨rfl, hb8⟩
  have B8 : Hid (Below w.heap.size w w8) := B7.out.trans (hb8.mono B7.out.size)
  clear x0 x1 x2 x3 x4 x5 y0 y1 y2 y3 y4 y5 hb8
  go_wp2_with fail
  go_ret
  exact ⟨rfl, B8.out⟩

set_option maxHeartbeats 400000 in
set_option maxRecDepth 100000 in
theorem lifted (os : Os) (started : os.Started) (H : Type) (enc : TypeId × Value → H) :
    ReturnsInHanded {} Try.checked os 7 .any (Rows.roundsAnswersSpec.pre6 enc Try.prog Try.f7 Rows.roundsAnswersRow.domain false) (Rows.roundsAnswersSpec.post enc Try.prog Try.f7 false true false false) := by
  refine returnsInHanded_of_change_sized (C := Try.checked) own started (by kernel_rfl) Try.func7
    (ChangeSpec.witness6 (enc := enc) (C := Try.checked) false ⟨#[], #[.agg #[.int .i64 0, .slice none 0 0, .int .i64 0, .int .i64 0], .agg #[.int .i64 0, .int .i64 0, .bool false, .bool false, .slice none 0 0, .slice none 0 0]], []⟩ 8 (by kernel_rfl) (by kernel_rfl) (by kernel_rfl) (by kernel_rfl)) ?_
  intro W base args ds gs before hval0 hW _ hsz0 _
  have hval : ∀ (j : Nat) t v, Try.f7.params[j]? = some t → args[j]? = some v → Value.okWide Try.prog W .any base t v := hval0
  have hW' := hW
  obtain ⟨p, q, hA0, hV, rfl, hfz, hnd⟩ := hW
  have hA : DataW.TrodAll enc Try.prog W 0 (fun _ => true) true Try.f7.params.toList args.toList ds p := hA0
  have hsz : (DataW.weightsEach Try.prog (Try.f7.params.toList ++ Rows.roundsAnswersSpec.plain.varTypes Try.prog) (ds ++ gs)).all (fun x => decide (x ≤ reachBytes)) = true := hsz0
  rw [Try.params7] at hA hval hsz
  obtain ⟨v0, vs0, d0, ds0, p0, q0, hargs, rfl, rfl, h0, r0⟩ := trodAll_cons hA
  obtain ⟨v1, vs1, d1, ds1, p1, q1, rfl, rfl, rfl, h1, r1⟩ := trodAll_cons r0
  obtain ⟨rfl, rfl, rfl⟩ := trodAll_nil r1
  obtain rfl : args = #[v0, v1] := by cases args; simp_all
  obtain ⟨rfl, rfl⟩ := trodVars_none hV
  have k0 := h0
  have lt0 : ∀ x ∈ p0, x.block < W.heap.size := by obtain ⟨m, hm⟩ := k0; exact DataW.trod_lt m _ _ _ hm
  have hw0 : ∀ m ∈ d0.weights Try.prog 26, m ≤ reachBytes := fun m hm => by simpa using List.all_eq_true.1 hsz _ (DataW.weights_mem_each (j := 0) (t := 26) rfl rfl m hm)
  have k1 := h1
  have lt1 : ∀ x ∈ p1, x.block < W.heap.size := by obtain ⟨m, hm⟩ := k1; exact DataW.trod_lt m _ _ _ hm
  have hw1 : ∀ m ∈ d1.weights Try.prog 34, m ≤ reachBytes := fun m hm => by simpa using List.all_eq_true.1 hsz _ (DataW.weights_mem_each (j := 1) (t := 34) rfl rfl m hm)
  obtain ⟨n0, w0, kd0, sr0, es0, rfl, hN0, hR0, hB0, hL0⟩ := open_job (okWide_struct Try.underlying26 (hval 0 26 v0 rfl rfl)) h0 hw0
  obtain ⟨T1, vv1, vm1, rfl, hN1, hV1, hM1, hB1⟩ := open_state (okWide_struct Try.underlying34 (hval 1 34 v1 rfl rfl)) h1 hw1
  clear hA0 hval0
  refine (walk w0 n0 kd0 sr0 es0 T1 vv1 vm1 W hN0 hR0 hB0 hL0 hN1 hV1 hM1 hB1).mono fun e W' ⟨he, bel⟩ => ?_
  subst he
  exact ⟨_, rfl, _, _, _, [], _, [], hW', trodAll_mk1 (shut_bool Try.underlying4 _), (trodAll_cons_mk (Below.trod laidOut (by kernel_rfl) (of_decide_eq_true (by kernel_rfl)) k0 bel lt0) (trodAll_cons_mk (Below.trod laidOut (by kernel_rfl) (of_decide_eq_true (by kernel_rfl)) k1 bel lt1) trodAll_mk0)), rfl, bel.frame _, fun h => by cases h⟩

theorem over : Rows.roundsAnswersRow.holds Try.pinned (OpenSpec.ofChange Rows.roundsAnswersSpec) :=
  OpenClaim.holds_of_wide 7 Try.f7 rfl rfl rfl rfl rfl rfl rfl ⟨rfl, rfl, rfl, rfl, rfl⟩ rfl rfl rfl rfl rfl (by kernel_rfl) Try.func7 (by kernel_rfl)
    (of_decide_eq_true (by kernel_rfl)) (by unfold Func.isWrapper; first | (rw [if_pos (by decide +kernel)]; kernel_rfl) | (rw [if_neg (by decide +kernel)]; exact ⟨rfl, rfl⟩))
    (fun os started H enc _ => lifted os started H enc)

/-- The statement. -/
theorem proved : Rows.RoundsAnswersSaid := over
#print axioms proved
end Go.Proofs.Ytooaigcjpkhdhaa.roundsAnswers
