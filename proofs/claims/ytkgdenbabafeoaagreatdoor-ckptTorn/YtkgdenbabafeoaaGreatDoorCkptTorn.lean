/-
  For all raw numbers: what was put and not sealed is never taken for whole, and harms nothing, behind whatever crash (the law CkptTorn returns true, and its arguments read as before). The package variables that the row lists read as their initialisers lay them, which the card ties to the text; no other condition.
-/
import Derived.Test.YtkgdenbabafeoaaGreatDoorCkptTornPartB
import Derived.Test.YtkgdenbabafeoaaGreatDoorCkptTornPartC
import Derived.Test.YtkgdenbabafeoaaGreatDoorCkptTornPartA
import Derived.Test.YtkgdenbabafeoaaGreatDoorTie
import Derived.Test.YtkgdenbabafeoaaGreatDoorCards
import Derived.WalkKit
import Derived.ProofKit
import Derived.OpenShut
import Derived.ShutString
import Derived.SizedLaws
import Derived.ChangeOld
import Derived.Below
import Derived.SevenTiedAt
namespace Go.Proofs.YtkgdenbabafeoaaGreatDoor.ckptTorn
set_option maxRecDepth 100000
open Go.ChangeShapes Go.WideShapes Go.ChangeAt Go.RowKit

theorem own : ownKnob Tryz.prog.godebug = none := by kernel_rfl
theorem laidOut : laidOutB Tryz.prog = true := by kernel_rfl

set_option maxHeartbeats 32000000 in
set_option maxRecDepth 100000 in
theorem walk (T0 : SvS) (vv0 vm0 : Value) (T1 : SvS) (vv1 vm1 : Value) (T2 : SvS) (vv2 vm2 : Value) (n3 : Int) (n4 : Int) (w : World) (hN0 : i64B T0.step ∧ i64B T0.phase) (hV0 : MlR w vv0 T0.vals) (hM0 : MlR w vm0 T0.mail) (hB0 : SavB T0) (hN1 : i64B T1.step ∧ i64B T1.phase) (hV1 : MlR w vv1 T1.vals) (hM1 : MlR w vm1 T1.mail) (hB1 : SavB T1) (hN2 : i64B T2.step ∧ i64B T2.phase) (hV2 : MlR w vv2 T2.vals) (hM2 : MlR w vm2 T2.mail) (hB2 : SavB T2) (hI3 : -9223372036854775808 ≤ n3 ∧ n3 ≤ 9223372036854775807) (hI4 : -9223372036854775808 ≤ n4 ∧ n4 ≤ 9223372036854775807) (hF : NoF w) :
    Calls Tryz.prog 4 #[.agg #[.int .i64 T0.step, .int .i64 T0.phase, .bool T0.fresh, vv0, vm0], .agg #[.int .i64 T1.step, .int .i64 T1.phase, .bool T1.fresh, vv1, vm1], .agg #[.int .i64 T2.step, .int .i64 T2.phase, .bool T2.fresh, vv2, vm2], .int .i64 n3, .int .i64 n4] w fun e w' => e = .returned (.bool true) ∧ Below w.heap.size w w' := by
  have _u := hN0
  clear _u
  have _u := hV0
  clear _u
  have _u := hM0
  clear _u
  have _u := hB0
  clear _u
  have _u := hN1
  clear _u
  have _u := hV1
  clear _u
  have _u := hM1
  clear _u
  have _u := hB1
  clear _u
  have _u := hN2
  clear _u
  have _u := hV2
  clear _u
  have _u := hM2
  clear _u
  have _u := hB2
  clear _u
  have _u := hI3
  clear _u
  have _u := hI4
  clear _u
  have _u := hF
  clear _u hF
  have HV0 : Hid (MlR w vv0 T0.vals) := hV0
  have HM0 : Hid (MlR w vm0 T0.mail) := hM0
  obtain ⟨a0, c0, rfl⟩ := hV0.shape
  obtain ⟨b0, d0, rfl⟩ := hM0.shape
  have CK0 : Hid (∀ X, Below w.heap.size w X → Calls Tryz.prog 6 #[.agg #[.int .i64 T0.step, .int .i64 T0.phase, .bool T0.fresh, .slice a0 T0.vals.length c0, .slice b0 T0.mail.length d0]] X (SvkP X (keptS T0))) := fun X h => kept_any T0 _ _ X (HV0.out.below h (Nat.le_refl _)) (HM0.out.below h (Nat.le_refl _)) hN0 hB0
  have hl0 := kb_len T0
  have hcn0 : Hid ((keptS T0).mail.length = min T0.mail.length 20) := kept_count T0
  have HKB0 : Hid (∀ m ∈ (keptS T0).mail, mlB m) := kept_mlB T0
  have HBY0 : Hid (∀ y ∈ kb T0, 0 ≤ y ∧ y ≤ 255) := kb_bytes T0
  have HEN0 : Hid (encS (keptS T0) = (kb T0, 0)) := kept_enc T0
  have HV1 : Hid (MlR w vv1 T1.vals) := hV1
  have HM1 : Hid (MlR w vm1 T1.mail) := hM1
  obtain ⟨a1, c1, rfl⟩ := hV1.shape
  obtain ⟨b1, d1, rfl⟩ := hM1.shape
  have CK1 : Hid (∀ X, Below w.heap.size w X → Calls Tryz.prog 6 #[.agg #[.int .i64 T1.step, .int .i64 T1.phase, .bool T1.fresh, .slice a1 T1.vals.length c1, .slice b1 T1.mail.length d1]] X (SvkP X (keptS T1))) := fun X h => kept_any T1 _ _ X (HV1.out.below h (Nat.le_refl _)) (HM1.out.below h (Nat.le_refl _)) hN1 hB1
  have hl1 := kb_len T1
  have hcn1 : Hid ((keptS T1).mail.length = min T1.mail.length 20) := kept_count T1
  have HKB1 : Hid (∀ m ∈ (keptS T1).mail, mlB m) := kept_mlB T1
  have HBY1 : Hid (∀ y ∈ kb T1, 0 ≤ y ∧ y ≤ 255) := kb_bytes T1
  have HEN1 : Hid (encS (keptS T1) = (kb T1, 0)) := kept_enc T1
  have HV2 : Hid (MlR w vv2 T2.vals) := hV2
  have HM2 : Hid (MlR w vm2 T2.mail) := hM2
  obtain ⟨a2, c2, rfl⟩ := hV2.shape
  obtain ⟨b2, d2, rfl⟩ := hM2.shape
  have CK2 : Hid (∀ X, Below w.heap.size w X → Calls Tryz.prog 6 #[.agg #[.int .i64 T2.step, .int .i64 T2.phase, .bool T2.fresh, .slice a2 T2.vals.length c2, .slice b2 T2.mail.length d2]] X (SvkP X (keptS T2))) := fun X h => kept_any T2 _ _ X (HV2.out.below h (Nat.le_refl _)) (HM2.out.below h (Nat.le_refl _)) hN2 hB2
  have hl2 := kb_len T2
  have hcn2 : Hid ((keptS T2).mail.length = min T2.mail.length 20) := kept_count T2
  have HKB2 : Hid (∀ m ∈ (keptS T2).mail, mlB m) := kept_mlB T2
  have HBY2 : Hid (∀ y ∈ kb T2, 0 ≤ y ∧ y ≤ 255) := kb_bytes T2
  have HEN2 : Hid (encS (keptS T2) = (kb T2, 0)) := kept_enc T2
  obtain ⟨p, hp⟩ : ∃ p, pickF n3 2 = p := ⟨_, rfl⟩
  have hp2 : p = 0 ∨ p = 1 := by have := pickF_bd n3 2 (by decide); omega
  have CP : Hid (∀ X, Calls Tryz.prog 7 #[.int .i64 n3, .int .i64 2] X fun e w' => e = .returned (.int .i64 p) ∧ w' = X) := fun X => by rw [← hp]; exact picked_any _ _ X hI3.1 hI3.2 (by decide) (by decide)
  obtain ⟨kp, hkp⟩ : ∃ p, pickF n4 200 = p := ⟨_, rfl⟩
  have hk2 : 0 ≤ kp ∧ kp < 200 := by have := pickF_bd n4 200 (by decide); omega
  have CQ : Hid (∀ X, Calls Tryz.prog 7 #[.int .i64 n4, .int .i64 200] X fun e w' => e = .returned (.int .i64 kp) ∧ w' = X) := fun X => by rw [← hkp]; exact picked_any _ _ X hI4.1 hI4.2 (by decide) (by decide)
  have CSD : Hid (∀ X, Below w.heap.size w X → Calls Tryz.prog 15 #[.agg #[.int .i64 T0.step, .int .i64 T0.phase, .bool T0.fresh, .slice a0 T0.vals.length c0, .slice b0 T0.mail.length d0], .agg #[.int .i64 T1.step, .int .i64 T1.phase, .bool T1.fresh, .slice a1 T1.vals.length c1, .slice b1 T1.mail.length d1], .int .i64 n3] X (SldP X [fS p (kb T0), fS (1 - p) (kb T1)])) := fun X h => sealed_any T0 _ _ T1 _ _ n3 p X hN0 (HV0.out.below h (Nat.le_refl _)) (HM0.out.below h (Nat.le_refl _)) hB0 hN1 (HV1.out.below h (Nat.le_refl _)) (HM1.out.below h (Nat.le_refl _)) hB1 hI3 hp hp2
  have CPU : Hid (∀ X u v1 v2, DiskR X u ([fS p (kb T0), fS (1 - p) (kb T1)]) → MlR X v1 (keptS T2).vals → MlR X v2 (keptS T2).mail → Calls Tryz.prog 10 #[.agg #[u], .agg #[.int .i64 (keptS T2).step, .int .i64 (keptS T2).phase, .bool (keptS T2).fresh, v1, v2]] X (DskP X ([fS p (kb T0), fS (1 - p) (kb T1), fN (kb T2)], 0))) := fun X u v1 v2 h1 h2 h3 => by have h := ckPut_any u ([fS p (kb T0), fS (1 - p) (kb T1)]) (keptS T2) v1 v2 X h1 (good2 (good_fS (n := p) hl0.2 HBY0.out) (good_fS (n := 1 - p) hl1.2 HBY1.out)) h2 h3 HKB2.out; rwa [HEN2.out, put_2 hl0.2 hl1.2 hl2.2 hp2] at h
  have CCR : Hid (∀ X u, DiskR X u ([fS p (kb T0), fS (1 - p) (kb T1), fN (kb T2)]) → Calls Tryz.prog 12 #[.agg #[u], .int .i64 kp] X (DskP X ([fS p (kb T0), fS (1 - p) (kb T1), cutK kp (kb T2)], 0))) := fun X u h1 => by have h := diskCrash_any u ([fS p (kb T0), fS (1 - p) (kb T1), fN (kb T2)]) kp X h1 (good3 (good_fS (n := p) hl0.2 HBY0.out) (good_fS (n := 1 - p) hl1.2 HBY1.out) (good_fN hl2.2 HBY2.out)) (by omega); rw [crash_3 hl0.2 hl1.2 hl2.2 hk2.1 hp2] at h; exact h
  have mC : mayB [fS p (kb T0), fS (1 - p) (kb T1), cutK kp (kb T2)] = true := may_3 hl0.2 hl1.2 (cutK_len hl2.2) (cut_in hk2.1) hp2
  have mH : mayB [fS (1 - p) (kb T1), fS p (kb T2)] = true := by have h9 := may_2s (n := 1 - p) hl1.2 hl2.2 (by omega); rwa [show 1 - (1 - p) = p by omega] at h9
  have CLA : Hid (∀ X u, DiskR X u ([fS p (kb T0), fS (1 - p) (kb T1), cutK kp (kb T2)]) → Calls Tryz.prog 13 #[.agg #[u], .int .i64 p] X (SvdP X (keptS T0, 0))) := fun X u h1 => by have h := ckLoad_any u ([fS p (kb T0), fS (1 - p) (kb T1), cutK kp (kb T2)]) p X h1 (good3 (good_fS (n := p) hl0.2 HBY0.out) (good_fS (n := 1 - p) hl1.2 HBY1.out) (good_cut hl2.2 HBY2.out hk2.1)); rwa [load_a hp2 mC] at h
  have CLB : Hid (∀ X u, DiskR X u ([fS p (kb T0), fS (1 - p) (kb T1), cutK kp (kb T2)]) → Calls Tryz.prog 13 #[.agg #[u], .int .i64 (1 - p)] X (SvdP X (keptS T1, 0))) := fun X u h1 => by have h := ckLoad_any u ([fS p (kb T0), fS (1 - p) (kb T1), cutK kp (kb T2)]) (1 - p) X h1 (good3 (good_fS (n := p) hl0.2 HBY0.out) (good_fS (n := 1 - p) hl1.2 HBY1.out) (good_cut hl2.2 HBY2.out hk2.1)); rwa [load_b hp2 mC] at h
  have CPV : Hid (∀ X u v1 v2, DiskR X u ([fS p (kb T0), fS (1 - p) (kb T1), cutK kp (kb T2)]) → MlR X v1 (keptS T2).vals → MlR X v2 (keptS T2).mail → Calls Tryz.prog 10 #[.agg #[u], .agg #[.int .i64 (keptS T2).step, .int .i64 (keptS T2).phase, .bool (keptS T2).fresh, v1, v2]] X (DskP X ([fS p (kb T0), fS (1 - p) (kb T1), fN (kb T2)], 0))) := fun X u v1 v2 h1 h2 h3 => by have h := ckPut_any u ([fS p (kb T0), fS (1 - p) (kb T1), cutK kp (kb T2)]) (keptS T2) v1 v2 X h1 (good3 (good_fS (n := p) hl0.2 HBY0.out) (good_fS (n := 1 - p) hl1.2 HBY1.out) (good_cut hl2.2 HBY2.out hk2.1)) h2 h3 HKB2.out; rwa [HEN2.out, show putE [fS p (kb T0), fS (1 - p) (kb T1), cutK kp (kb T2)] (kb T2, 0) = ([fS p (kb T0), fS (1 - p) (kb T1), fN (kb T2)], 0) from put_3 hl0.2 hl1.2 hl2.2 (cutK_len hl2.2) (cut_in hk2.1) hp2] at h
  have CSE : Hid (∀ X u, DiskR X u ([fS p (kb T0), fS (1 - p) (kb T1), fN (kb T2)]) → Calls Tryz.prog 11 #[.agg #[u], .int .i64 p] X (DskP X ([fS (1 - p) (kb T1), fS p (kb T2)], 0))) := fun X u h1 => by have h := ckSeal_any u ([fS p (kb T0), fS (1 - p) (kb T1), fN (kb T2)]) p X h1 (good3 (good_fS (n := p) hl0.2 HBY0.out) (good_fS (n := 1 - p) hl1.2 HBY1.out) (good_fN hl2.2 HBY2.out)); rwa [seal_3 hl0.2 hl1.2 hl2.2 hp2] at h
  have CLC : Hid (∀ X u, DiskR X u ([fS (1 - p) (kb T1), fS p (kb T2)]) → Calls Tryz.prog 13 #[.agg #[u], .int .i64 p] X (SvdP X (keptS T2, 0))) := fun X u h1 => by have h := ckLoad_any u ([fS (1 - p) (kb T1), fS p (kb T2)]) p X h1 (good2 (good_fS (n := 1 - p) hl1.2 HBY1.out) (good_fS (n := p) hl2.2 HBY2.out)); rwa [load_c hp2 mH] at h
  have CLD : Hid (∀ X u, DiskR X u ([fS (1 - p) (kb T1), fS p (kb T2)]) → Calls Tryz.prog 13 #[.agg #[u], .int .i64 (1 - p)] X (SvdP X (keptS T1, 0))) := fun X u h1 => by have h := ckLoad_any u ([fS (1 - p) (kb T1), fS p (kb T2)]) (1 - p) X h1 (good2 (good_fS (n := 1 - p) hl1.2 HBY1.out) (good_fS (n := p) hl2.2 HBY2.out)); rwa [load_d hp2 mH] at h
  have CT : Hid (∀ X (s t : SvS) u1 u2 v1 v2, MlR X u1 s.vals → MlR X u2 s.mail → MlR X v1 t.vals → MlR X v2 t.mail → Calls Tryz.prog 14 #[.agg #[.int .i64 s.step, .int .i64 s.phase, .bool s.fresh, u1, u2], .agg #[.int .i64 t.step, .int .i64 t.phase, .bool t.fresh, v1, v2]] X fun e w' => ∃ r, e = .returned (.bool r) ∧ (s = t → r = true) ∧ Below X.heap.size X w') := fun X s t u1 u2 v1 v2 h1 h2 h3 h4 => sameSavedK_any s t u1 v1 u2 v2 X h1 h3 h2 h4
  have wp1 : IntKind.i64.wrap (1 - p) = 1 - p := wrap_id64 (by omega) (by omega)
  have eA : ∀ args w, (callFunc 6 args).run Tryz.prog w = .ok (.enter 6 args) w := enters_of Tryz.func6 (by kernel_rfl) rfl
  have eS : ∀ args w, (callFunc 14 args).run Tryz.prog w = .ok (.enter 14 args) w := enters_of Tryz.func14 (by kernel_rfl) rfl
  have eF : ∀ args w, (callFunc 10 args).run Tryz.prog w = .ok (.enter 10 args) w := enters_of Tryz.func10 (by kernel_rfl) rfl
  have eP : ∀ args w, (callFunc 7 args).run Tryz.prog w = .ok (.enter 7 args) w := enters_of Tryz.func7 (by kernel_rfl) rfl
  have eC : ∀ args w, (callFunc 12 args).run Tryz.prog w = .ok (.enter 12 args) w := enters_of Tryz.func12 (by kernel_rfl) rfl
  clear hI3 hI4 hp hkp hp2 hk2 mC mH hV0 hM0 hN0 hB0 HEN0 HKB0 hl0 HBY0 hcn0 hV1 hM1 hN1 hB1 HEN1 HKB1 hl1 HBY1 hcn1 hV2 hM2 hN2 hB2 HEN2 HKB2 hl2 HBY2 hcn2
  generalize cutK kp (kb T2) = cut at *
  generalize kb T0 = kb0 at *
  generalize kb T1 = kb1 at *
  generalize kb T2 = kb2 at *
  obtain ⟨W0, hW0⟩ : ∃ W0, W0 = ((w.alloc (.cells #[.int .i64 T0.step, .int .i64 T0.phase, .bool T0.fresh, .slice a0 T0.vals.length c0, .slice b0 T0.mail.length d0] 24)).alloc (.cells #[.int .i64 T1.step, .int .i64 T1.phase, .bool T1.fresh, .slice a1 T1.vals.length c1, .slice b1 T1.mail.length d1] 24)).alloc (.cells #[.int .i64 T2.step, .int .i64 T2.phase, .bool T2.fresh, .slice a2 T2.vals.length c2, .slice b2 T2.mail.length d2] 24) := ⟨_, rfl⟩
  obtain ⟨Q0, Q1, Q2, B0, s1, s2⟩ := boxes3 w #[.int .i64 T0.step, .int .i64 T0.phase, .bool T0.fresh, .slice a0 T0.vals.length c0, .slice b0 T0.mail.length d0] #[.int .i64 T1.step, .int .i64 T1.phase, .bool T1.fresh, .slice a1 T1.vals.length c1, .slice b1 T1.mail.length d1] #[.int .i64 T2.step, .int .i64 T2.phase, .bool T2.fresh, .slice a2 T2.vals.length c2, .slice b2 T2.mail.length d2] 24 24 24 W0 hW0
  have LB : Hid (Below w.heap.size w W0) := B0
  have X0 : Hid (BX 24 W0 w.heap.size #[.int .i64 T0.step, .int .i64 T0.phase, .bool T0.fresh, .slice a0 T0.vals.length c0, .slice b0 T0.mail.length d0]) := Q0
  have X1 : Hid (BX 24 W0 (w.heap.size + 1) #[.int .i64 T1.step, .int .i64 T1.phase, .bool T1.fresh, .slice a1 T1.vals.length c1, .slice b1 T1.mail.length d1]) := Q1
  have X2 : Hid (BX 24 W0 (w.heap.size + 2) #[.int .i64 T2.step, .int .i64 T2.phase, .bool T2.fresh, .slice a2 T2.vals.length c2, .slice b2 T2.mail.length d2]) := Q2
  clear B0 Q0 Q1 Q2
  go_enter Tryz.func4, Tryz.ntmps4
  go_upto_region 1 with fail
  rw [← hW0]
  clear hW0
  have z0_0 : W0.cell? ⟨w.heap.size, 0, none⟩ = some (.int .i64 T0.step) := X0.out.cell 0
  have z0_1 : W0.cell? ⟨w.heap.size, 1, none⟩ = some (.int .i64 T0.phase) := X0.out.cell 1
  have z0_2 : W0.cell? ⟨w.heap.size, 2, none⟩ = some (.bool T0.fresh) := X0.out.cell 2
  have z0_3 : W0.cell? ⟨w.heap.size, 3, none⟩ = some (.slice a0 T0.vals.length c0) := X0.out.cell 3
  have z0_4 : W0.cell? ⟨w.heap.size, 4, none⟩ = some (.slice b0 T0.mail.length d0) := X0.out.cell 4
  have z1_0 : W0.cell? ⟨(w.heap.size + 1), 0, none⟩ = some (.int .i64 T1.step) := X1.out.cell 0
  have z1_1 : W0.cell? ⟨(w.heap.size + 1), 1, none⟩ = some (.int .i64 T1.phase) := X1.out.cell 1
  have z1_2 : W0.cell? ⟨(w.heap.size + 1), 2, none⟩ = some (.bool T1.fresh) := X1.out.cell 2
  have z1_3 : W0.cell? ⟨(w.heap.size + 1), 3, none⟩ = some (.slice a1 T1.vals.length c1) := X1.out.cell 3
  have z1_4 : W0.cell? ⟨(w.heap.size + 1), 4, none⟩ = some (.slice b1 T1.mail.length d1) := X1.out.cell 4
  go_wp2_with fail
  refine (CSD.out _ LB.out).mono ?_
  rintro e w1 ⟨v', rfl, hd, hb⟩
  obtain ⟨D1a, D1c, rfl⟩ : ∃ a c, v' = .slice a ([fS p kb0, fS (1 - p) kb1]).length c := by obtain ⟨a, c, e, _⟩ := hd; exact ⟨a, c, e⟩
  replace LB : Hid (Below w.heap.size w w1) := LB.out.trans (hb.mono LB.out.size)
  replace X0 : Hid (BX 24 w1 w.heap.size #[.int .i64 T0.step, .int .i64 T0.phase, .bool T0.fresh, .slice a0 T0.vals.length c0, .slice b0 T0.mail.length d0]) := X0.out.below hb X0.out.lt
  replace X1 : Hid (BX 24 w1 (w.heap.size + 1) #[.int .i64 T1.step, .int .i64 T1.phase, .bool T1.fresh, .slice a1 T1.vals.length c1, .slice b1 T1.mail.length d1]) := X1.out.below hb X1.out.lt
  replace X2 : Hid (BX 24 w1 (w.heap.size + 2) #[.int .i64 T2.step, .int .i64 T2.phase, .bool T2.fresh, .slice a2 T2.vals.length c2, .slice b2 T2.mail.length d2]) := X2.out.below hb X2.out.lt
  have D1 : Hid (DiskR w1 (.slice D1a ([fS p kb0, fS (1 - p) kb1]).length D1c) ([fS p kb0, fS (1 - p) kb1])) := hd
  clear hd hb
  clear z0_0 z0_1 z0_2 z0_3 z0_4 z1_0 z1_1 z1_2 z1_3 z1_4
  have L9 := LB.out.size
  have M9_X0 := X0.out.lt
  have M9_X1 := X1.out.lt
  have M9_X2 := X2.out.lt
  replace LB : Hid (Below w.heap.size w (w1.alloc (.cells #[.slice D1a ([fS p kb0, fS (1 - p) kb1] : List FileL).length D1c] 39))) := LB.out.alloc LB.out.size _
  replace X0 : Hid (BX 24 (w1.alloc (.cells #[.slice D1a ([fS p kb0, fS (1 - p) kb1] : List FileL).length D1c] 39)) w.heap.size #[.int .i64 T0.step, .int .i64 T0.phase, .bool T0.fresh, .slice a0 T0.vals.length c0, .slice b0 T0.mail.length d0]) := X0.out.below (below_alloc _ _) X0.out.lt
  replace X1 : Hid (BX 24 (w1.alloc (.cells #[.slice D1a ([fS p kb0, fS (1 - p) kb1] : List FileL).length D1c] 39)) (w.heap.size + 1) #[.int .i64 T1.step, .int .i64 T1.phase, .bool T1.fresh, .slice a1 T1.vals.length c1, .slice b1 T1.mail.length d1]) := X1.out.below (below_alloc _ _) X1.out.lt
  replace X2 : Hid (BX 24 (w1.alloc (.cells #[.slice D1a ([fS p kb0, fS (1 - p) kb1] : List FileL).length D1c] 39)) (w.heap.size + 2) #[.int .i64 T2.step, .int .i64 T2.phase, .bool T2.fresh, .slice a2 T2.vals.length c2, .slice b2 T2.mail.length d2]) := X2.out.below (below_alloc _ _) X2.out.lt
  replace D1 : Hid (DiskR (w1.alloc (.cells #[.slice D1a ([fS p kb0, fS (1 - p) kb1] : List FileL).length D1c] 39)) (.slice D1a ([fS p kb0, fS (1 - p) kb1]).length D1c) ([fS p kb0, fS (1 - p) kb1])) := D1.out.below (below_alloc _ _) (Nat.le_refl _)
  have D : Hid (BX 39 (w1.alloc (.cells #[.slice D1a ([fS p kb0, fS (1 - p) kb1] : List FileL).length D1c] 39)) w1.heap.size #[.slice D1a ([fS p kb0, fS (1 - p) kb1] : List FileL).length D1c]) := BX.new _ _ _
  have l_q1 : w.heap.size ≤ w1.heap.size := L9
  clear L9
  have n_X0_q1 : w.heap.size < w1.heap.size := M9_X0
  clear M9_X0
  have n_X1_q1 : (w.heap.size + 1) < w1.heap.size := M9_X1
  clear M9_X1
  have n_X2_q1 : (w.heap.size + 2) < w1.heap.size := M9_X2
  clear M9_X2
  go_upto_region 2 with fail
  generalize w1.alloc (.cells #[.slice D1a ([fS p kb0, fS (1 - p) kb1] : List FileL).length D1c] 39) = w1n at *
  generalize w1.heap.size = q1 at *
  go_wp2_with fail
  refine (CP.out _).mono ?_
  rintro e w9 ⟨rfl, e9⟩
  have e9' : w1n = w9 := e9.symm
  subst e9'
  clear e9
  go_upto_region 3 with fail
  have KS : Hid (∀ V, Below w1n.heap.size w1n V → BX 39 V q1 #[.slice D1a ([fS p kb0, fS (1 - p) kb1] : List FileL).length D1c] ∧ BX 24 V (w.heap.size + 2) #[.int .i64 T2.step, .int .i64 T2.phase, .bool T2.fresh, .slice a2 T2.vals.length c2, .slice b2 T2.mail.length d2]) := fun V h => ⟨D.out.below h D.out.lt, X2.out.below h X2.out.lt⟩
  apply Hid.cut
  case h =>
    intro HG
    have BD : Below w1n.heap.size w1n w1n.drew := (Below.refl _ _).drew
    replace LB : Hid (Below w.heap.size w w1n.drew) := LB.out.trans (BD.mono LB.out.size)
    replace X0 : Hid (BX 24 w1n.drew w.heap.size #[.int .i64 T0.step, .int .i64 T0.phase, .bool T0.fresh, .slice a0 T0.vals.length c0, .slice b0 T0.mail.length d0]) := X0.out.below BD X0.out.lt
    replace X1 : Hid (BX 24 w1n.drew (w.heap.size + 1) #[.int .i64 T1.step, .int .i64 T1.phase, .bool T1.fresh, .slice a1 T1.vals.length c1, .slice b1 T1.mail.length d1]) := X1.out.below BD X1.out.lt
    replace X2 : Hid (BX 24 w1n.drew (w.heap.size + 2) #[.int .i64 T2.step, .int .i64 T2.phase, .bool T2.fresh, .slice a2 T2.vals.length c2, .slice b2 T2.mail.length d2]) := X2.out.below BD X2.out.lt
    replace D1 : Hid (DiskR w1n.drew (.slice D1a ([fS p kb0, fS (1 - p) kb1]).length D1c) ([fS p kb0, fS (1 - p) kb1])) := D1.out.below BD (Nat.le_refl _)
    replace D : Hid (BX 39 w1n.drew q1 #[.slice D1a ([fS p kb0, fS (1 - p) kb1] : List FileL).length D1c]) := D.out.below BD D.out.lt
    refine wp_region_held (S := fun V => BX 39 V q1 #[.slice D1a ([fS p kb0, fS (1 - p) kb1] : List FileL).length D1c] ∧ BX 24 V (w.heap.size + 2) #[.int .i64 T2.step, .int .i64 T2.phase, .bool T2.fresh, .slice a2 T2.vals.length c2, .slice b2 T2.mail.length d2]) (by kernel_rfl) ?_
    simp only [List.size_toArray, List.length_cons, List.length_nil, Nat.reduceAdd]
    refine takeH (i := 0) (v := .agg #[.slice D1a ([fS p kb0, fS (1 - p) kb1] : List FileL).length D1c]) (d := 36) rfl rfl (by kernel_rfl) (by kernel_rfl) (by kernel_rfl) (fun _ _ _ h => h) (by rfl) (fun V hV => by obtain ⟨v1, v2⟩ := hV; have d0 := v1.cell 0; have u0 := v2.cell 0; have u1 := v2.cell 1; have u2 := v2.cell 2; have u3 := v2.cell 3; have u4 := v2.cell 4; simp at d0 u0 u1 u2 u3 u4; go_simp) (KS.out _ (BD)) ?_
    simp only [Act.put, List.setIfInBounds_toArray, List.set_cons_zero, List.set_cons_succ]
    refine takeH (i := 1) (v := .agg #[.int .i64 T2.step, .int .i64 T2.phase, .bool T2.fresh, .slice a2 T2.vals.length c2, .slice b2 T2.mail.length d2]) (d := 37) rfl rfl (by kernel_rfl) (by kernel_rfl) (by kernel_rfl) (fun _ _ _ h => h) (by rfl) (fun V hV => by obtain ⟨v1, v2⟩ := hV; have d0 := v1.cell 0; have u0 := v2.cell 0; have u1 := v2.cell 1; have u2 := v2.cell 2; have u3 := v2.cell 3; have u4 := v2.cell 4; simp at d0 u0 u1 u2 u3 u4; go_simp) (KS.out _ (BD)) ?_
    simp only [Act.put, List.setIfInBounds_toArray, List.set_cons_zero, List.set_cons_succ]
    refine twoH (i := 2) (j := 7) rfl rfl (by kernel_rfl) rfl rfl ?w1 ?w2
    case w1 =>
      refine  (call_gets (R := fun v w' => ∃ v1 v2, v = .agg #[.int .i64 (keptS T2).step, .int .i64 (keptS T2).phase, .bool (keptS T2).fresh, v1, v2] ∧ w'.ownsRow w1n.drew.heap.size 53 2 v1 (keptS T2).vals.length ((keptS T2).vals.flatMap encM) ∧ w'.ownsRow w1n.drew.heap.size 62 2 v2 (keptS T2).mail.length ((keptS T2).mail.flatMap encM) ∧ Below w1n.drew.heap.size w1n.drew w') (d := 38) (f := 6) (xs := #[.tmp 37]) (ats := #[24]) rfl rfl eA (vs := #[.agg #[.int .i64 T2.step, .int .i64 T2.phase, .bool T2.fresh, .slice a2 T2.vals.length c2, .slice b2 T2.mail.length d2]]) (by simp [Act.eval]) ((CK2.out _ LB.out).mono fun e w' h => by obtain ⟨v1, v2, h1, h2, h3, h4⟩ := h; exact ⟨_, h1, v1, v2, rfl, h2, h3, h4⟩) ?_)
      rintro v wA202 ⟨v1, v2, rfl, ho1, ho2, hb⟩
      have wA202_b : Below w1n.heap.size w1n wA202 := (BD).trans (hb.mono (Below.size (BD)))
      obtain ⟨Ra, Rc, rfl⟩ := (RowK.own encM_len ho1 : MlR wA202 v1 (keptS T2).vals).shape
      obtain ⟨Rb, Rd, rfl⟩ := (RowK.own encM_len ho2 : MlR wA202 v2 (keptS T2).mail).shape
      have hle := LB.out.size
      replace LB : Hid (Below w.heap.size w wA202) := LB.out.trans (hb.mono LB.out.size)
      replace X0 : Hid (BX 24 wA202 w.heap.size #[.int .i64 T0.step, .int .i64 T0.phase, .bool T0.fresh, .slice a0 T0.vals.length c0, .slice b0 T0.mail.length d0]) := X0.out.below hb X0.out.lt
      replace X1 : Hid (BX 24 wA202 (w.heap.size + 1) #[.int .i64 T1.step, .int .i64 T1.phase, .bool T1.fresh, .slice a1 T1.vals.length c1, .slice b1 T1.mail.length d1]) := X1.out.below hb X1.out.lt
      replace X2 : Hid (BX 24 wA202 (w.heap.size + 2) #[.int .i64 T2.step, .int .i64 T2.phase, .bool T2.fresh, .slice a2 T2.vals.length c2, .slice b2 T2.mail.length d2]) := X2.out.below hb X2.out.lt
      replace D1 : Hid (DiskR wA202 (.slice D1a ([fS p kb0, fS (1 - p) kb1]).length D1c) ([fS p kb0, fS (1 - p) kb1])) := D1.out.below hb (Nat.le_refl _)
      replace D : Hid (BX 39 wA202 q1 #[.slice D1a ([fS p kb0, fS (1 - p) kb1] : List FileL).length D1c]) := D.out.below hb D.out.lt
      have RV : Hid (wA202.ownsRow w.heap.size 53 2 (.slice Ra (keptS T2).vals.length Rc) (keptS T2).vals.length ((keptS T2).vals.flatMap encM)) := own_lower ho1 hle
      have RM : Hid (wA202.ownsRow w.heap.size 62 2 (.slice Rb (keptS T2).mail.length Rd) (keptS T2).mail.length ((keptS T2).mail.flatMap encM)) := own_lower ho2 hle
      clear ho1 ho2 hb hle
      refine ⟨KS.out _ wA202_b, ?_⟩
      simp only [Act.put, List.setIfInBounds_toArray, List.set_cons_zero, List.set_cons_succ]
      refine twoH (i := 3) (j := 7) rfl rfl (by kernel_rfl) rfl rfl ?w3 ?w4
      case w3 =>
        refine  (call_gets (R := fun v w' => ∃ v', v = .tuple #[.agg #[v'], .int .i64 0] ∧ DiskR w' v' ([fS p kb0, fS (1 - p) kb1, fN kb2]) ∧ Below wA202.heap.size wA202 w') (d := 39) (f := 10) (xs := #[.tmp 36, .tmp 38]) (ats := #[39, 28]) rfl rfl eF (vs := #[.agg #[.slice D1a ([fS p kb0, fS (1 - p) kb1] : List FileL).length D1c], .agg #[.int .i64 (keptS T2).step, .int .i64 (keptS T2).phase, .bool (keptS T2).fresh, .slice Ra (keptS T2).vals.length Rc, .slice Rb (keptS T2).mail.length Rd]]) (by simp [Act.eval]) ((CPU.out _ _ _ _ D1.out (RowK.own encM_len RV.out) (RowK.own encM_len RM.out)).mono fun e w' h => by obtain ⟨v', h1, h2, h3⟩ := h; exact ⟨_, h1, v', rfl, h2, h3⟩) ?_)
        rintro v wB302 ⟨v', rfl, hd, hb⟩
        have wB302_b : Below w1n.heap.size w1n wB302 := (wA202_b).trans (hb.mono (Below.size (wA202_b)))
        obtain ⟨D2a, D2c, rfl⟩ : ∃ a c, v' = .slice a ([fS p kb0, fS (1 - p) kb1, fN kb2]).length c := by obtain ⟨a, c, e, _⟩ := hd; exact ⟨a, c, e⟩
        replace LB : Hid (Below w.heap.size w wB302) := LB.out.trans (hb.mono LB.out.size)
        replace X0 : Hid (BX 24 wB302 w.heap.size #[.int .i64 T0.step, .int .i64 T0.phase, .bool T0.fresh, .slice a0 T0.vals.length c0, .slice b0 T0.mail.length d0]) := X0.out.below hb X0.out.lt
        replace X1 : Hid (BX 24 wB302 (w.heap.size + 1) #[.int .i64 T1.step, .int .i64 T1.phase, .bool T1.fresh, .slice a1 T1.vals.length c1, .slice b1 T1.mail.length d1]) := X1.out.below hb X1.out.lt
        replace X2 : Hid (BX 24 wB302 (w.heap.size + 2) #[.int .i64 T2.step, .int .i64 T2.phase, .bool T2.fresh, .slice a2 T2.vals.length c2, .slice b2 T2.mail.length d2]) := X2.out.below hb X2.out.lt
        replace D1 : Hid (DiskR wB302 (.slice D1a ([fS p kb0, fS (1 - p) kb1]).length D1c) ([fS p kb0, fS (1 - p) kb1])) := D1.out.below hb (Nat.le_refl _)
        replace D : Hid (BX 39 wB302 q1 #[.slice D1a ([fS p kb0, fS (1 - p) kb1] : List FileL).length D1c]) := D.out.below hb D.out.lt
        replace RV : Hid (wB302.ownsRow w.heap.size 53 2 (.slice Ra (keptS T2).vals.length Rc) (keptS T2).vals.length ((keptS T2).vals.flatMap encM)) := own_below RV.out hb (Nat.le_refl _)
        replace RM : Hid (wB302.ownsRow w.heap.size 62 2 (.slice Rb (keptS T2).mail.length Rd) (keptS T2).mail.length ((keptS T2).mail.flatMap encM)) := own_below RM.out hb (Nat.le_refl _)
        have D2 : Hid (DiskR wB302 (.slice D2a ([fS p kb0, fS (1 - p) kb1, fN kb2]).length D2c) ([fS p kb0, fS (1 - p) kb1, fN kb2])) := hd
        clear hd hb
        refine ⟨KS.out _ wB302_b, ?_⟩
        simp only [Act.put, List.setIfInBounds_toArray, List.set_cons_zero, List.set_cons_succ]
        refine takeH (i := 4) (v := .tuple #[.agg #[.slice D2a ([fS p kb0, fS (1 - p) kb1, fN kb2]).length D2c], .int .i64 0]) (d := 35) rfl rfl (by kernel_rfl) (by kernel_rfl) (by kernel_rfl) (fun _ _ _ h => h) (by rfl) (fun V hV => by have _ := hV; go_simp) (KS.out _ (wB302_b)) ?_
        simp only [Act.put, List.setIfInBounds_toArray, List.set_cons_zero, List.set_cons_succ]
        refine takeH (i := 5) (v := .agg #[.slice D2a ([fS p kb0, fS (1 - p) kb1, fN kb2]).length D2c]) (d := 40) rfl rfl (by kernel_rfl) (by kernel_rfl) (by kernel_rfl) (fun _ _ _ h => h) (by rfl) (fun V hV => by have _ := hV; go_simp) (KS.out _ (wB302_b)) ?_
        simp only [Act.put, List.setIfInBounds_toArray, List.set_cons_zero, List.set_cons_succ]
        refine takeH (i := 6) (v := .int .i64 0) (d := 41) rfl rfl (by kernel_rfl) (by kernel_rfl) (by kernel_rfl) (fun _ _ _ h => h) (by rfl) (fun V hV => by have _ := hV; go_simp) (KS.out _ (wB302_b)) ?_
        simp only [Act.put, List.setIfInBounds_toArray, List.set_cons_zero, List.set_cons_succ]
        refine oneH (i := 7) rfl (by kernel_rfl) rfl (op_run (d := 14) (v' := .pointer (some ⟨wB302.heap.size, 0, none⟩)) (w' := wB302.alloc (.cells #[.slice none 0 0] 39)) rfl (by go_simp) ⟨KS.out _ (Below.alloc (wB302_b) (Below.size (wB302_b)) _), ?_⟩)
        simp only [Act.put, List.setIfInBounds_toArray, List.set_cons_zero, List.set_cons_succ]
        have bn302 : Below w1n.heap.size w1n (wB302.alloc (.cells #[.slice none 0 0] 39)) := Below.alloc (wB302_b) (Below.size (wB302_b)) _
        have l_q2 : w.heap.size ≤ wB302.heap.size := LB.out.size
        have m_q2 : w1n.heap.size ≤ wB302.heap.size := Below.size (wB302_b)
        have n_X0_q2 : w.heap.size < wB302.heap.size := X0.out.lt
        have n_X1_q2 : (w.heap.size + 1) < wB302.heap.size := X1.out.lt
        have n_X2_q2 : (w.heap.size + 2) < wB302.heap.size := X2.out.lt
        have n_D_q2 : q1 < wB302.heap.size := D.out.lt
        replace LB : Hid (Below w.heap.size w (wB302.alloc (.cells #[.slice none 0 0] 39))) := LB.out.alloc LB.out.size _
        replace X0 : Hid (BX 24 (wB302.alloc (.cells #[.slice none 0 0] 39)) w.heap.size #[.int .i64 T0.step, .int .i64 T0.phase, .bool T0.fresh, .slice a0 T0.vals.length c0, .slice b0 T0.mail.length d0]) := X0.out.below (below_alloc _ _) X0.out.lt
        replace X1 : Hid (BX 24 (wB302.alloc (.cells #[.slice none 0 0] 39)) (w.heap.size + 1) #[.int .i64 T1.step, .int .i64 T1.phase, .bool T1.fresh, .slice a1 T1.vals.length c1, .slice b1 T1.mail.length d1]) := X1.out.below (below_alloc _ _) X1.out.lt
        replace X2 : Hid (BX 24 (wB302.alloc (.cells #[.slice none 0 0] 39)) (w.heap.size + 2) #[.int .i64 T2.step, .int .i64 T2.phase, .bool T2.fresh, .slice a2 T2.vals.length c2, .slice b2 T2.mail.length d2]) := X2.out.below (below_alloc _ _) X2.out.lt
        replace D1 : Hid (DiskR (wB302.alloc (.cells #[.slice none 0 0] 39)) (.slice D1a ([fS p kb0, fS (1 - p) kb1]).length D1c) ([fS p kb0, fS (1 - p) kb1])) := D1.out.below (below_alloc _ _) (Nat.le_refl _)
        replace D : Hid (BX 39 (wB302.alloc (.cells #[.slice none 0 0] 39)) q1 #[.slice D1a ([fS p kb0, fS (1 - p) kb1] : List FileL).length D1c]) := D.out.below (below_alloc _ _) D.out.lt
        replace RV : Hid ((wB302.alloc (.cells #[.slice none 0 0] 39)).ownsRow w.heap.size 53 2 (.slice Ra (keptS T2).vals.length Rc) (keptS T2).vals.length ((keptS T2).vals.flatMap encM)) := own_below RV.out (below_alloc _ _) (Nat.le_refl _)
        replace RM : Hid ((wB302.alloc (.cells #[.slice none 0 0] 39)).ownsRow w.heap.size 62 2 (.slice Rb (keptS T2).mail.length Rd) (keptS T2).mail.length ((keptS T2).mail.flatMap encM)) := own_below RM.out (below_alloc _ _) (Nat.le_refl _)
        replace D2 : Hid (DiskR (wB302.alloc (.cells #[.slice none 0 0] 39)) (.slice D2a ([fS p kb0, fS (1 - p) kb1, fN kb2]).length D2c) ([fS p kb0, fS (1 - p) kb1, fN kb2])) := D2.out.below (below_alloc _ _) (Nat.le_refl _)
        have T : Hid (BX 39 (wB302.alloc (.cells #[.slice none 0 0] 39)) wB302.heap.size #[.slice none 0 0]) := BX.new _ _ _
        generalize wB302.alloc (.cells #[.slice none 0 0] 39) = wn302 at *
        generalize wB302.heap.size = q2 at *
        have z302_0 : wn302.cell? ⟨q2, 0, none⟩ = some (.slice none 0 0) := T.out.cell 0
        have y303_0 : wn302.frozen? ⟨q2, 0, none⟩ = false := T.out.frozen 0
        have bz304 : Below w1n.heap.size w1n (wn302.setCell ⟨q2, 0, none⟩ (.slice D2a ([fS p kb0, fS (1 - p) kb1, fN kb2]).length D2c)) := Below.setCell (bn302) m_q2 _
        refine oneH (i := 8) rfl (by kernel_rfl) rfl (op_skip (w' := wn302.setCell ⟨q2, 0, none⟩ (.slice D2a ([fS p kb0, fS (1 - p) kb1, fN kb2]).length D2c)) rfl (by go_simp) ⟨KS.out _ bz304, ?_⟩)
        refine takeH (i := 9) (v := .int .i64 0) (d := 15) rfl rfl (by kernel_rfl) (by kernel_rfl) (by kernel_rfl) (fun _ _ _ h => h) (by rfl) (fun V hV => by have _ := hV; go_simp) (KS.out _ (bz304)) ?_
        simp only [Act.put, List.setIfInBounds_toArray, List.set_cons_zero, List.set_cons_succ]
        refine wpAnyH_done (by kernel_rfl) ?_ _
        clear z302_0 y303_0 bz304
        have T_old := T.out
        replace LB : Hid (Below w.heap.size w (wn302.setCell ⟨q2, 0, none⟩ (.slice D2a ([fS p kb0, fS (1 - p) kb1, fN kb2]).length D2c))) := LB.out.setCell (show w.heap.size ≤ q2 by omega) _
        replace X0 : Hid (BX 24 (wn302.setCell ⟨q2, 0, none⟩ (.slice D2a ([fS p kb0, fS (1 - p) kb1, fN kb2]).length D2c)) w.heap.size #[.int .i64 T0.step, .int .i64 T0.phase, .bool T0.fresh, .slice a0 T0.vals.length c0, .slice b0 T0.mail.length d0]) := X0.out.other (by omega)
        replace X1 : Hid (BX 24 (wn302.setCell ⟨q2, 0, none⟩ (.slice D2a ([fS p kb0, fS (1 - p) kb1, fN kb2]).length D2c)) (w.heap.size + 1) #[.int .i64 T1.step, .int .i64 T1.phase, .bool T1.fresh, .slice a1 T1.vals.length c1, .slice b1 T1.mail.length d1]) := X1.out.other (by omega)
        replace X2 : Hid (BX 24 (wn302.setCell ⟨q2, 0, none⟩ (.slice D2a ([fS p kb0, fS (1 - p) kb1, fN kb2]).length D2c)) (w.heap.size + 2) #[.int .i64 T2.step, .int .i64 T2.phase, .bool T2.fresh, .slice a2 T2.vals.length c2, .slice b2 T2.mail.length d2]) := X2.out.other (by omega)
        replace D1 : Hid (DiskR (wn302.setCell ⟨q2, 0, none⟩ (.slice D2a ([fS p kb0, fS (1 - p) kb1, fN kb2]).length D2c)) (.slice D1a ([fS p kb0, fS (1 - p) kb1]).length D1c) ([fS p kb0, fS (1 - p) kb1])) := D1.out.setBox T_old
        replace D : Hid (BX 39 (wn302.setCell ⟨q2, 0, none⟩ (.slice D2a ([fS p kb0, fS (1 - p) kb1, fN kb2]).length D2c)) q1 #[.slice D1a ([fS p kb0, fS (1 - p) kb1] : List FileL).length D1c]) := D.out.other (by omega)
        replace RV : Hid ((wn302.setCell ⟨q2, 0, none⟩ (.slice D2a ([fS p kb0, fS (1 - p) kb1, fN kb2]).length D2c)).ownsRow w.heap.size 53 2 (.slice Ra (keptS T2).vals.length Rc) (keptS T2).vals.length ((keptS T2).vals.flatMap encM)) := T_old.own RV.out (by decide)
        replace RM : Hid ((wn302.setCell ⟨q2, 0, none⟩ (.slice D2a ([fS p kb0, fS (1 - p) kb1, fN kb2]).length D2c)).ownsRow w.heap.size 62 2 (.slice Rb (keptS T2).mail.length Rd) (keptS T2).mail.length ((keptS T2).mail.flatMap encM)) := T_old.own RM.out (by decide)
        replace D2 : Hid (DiskR (wn302.setCell ⟨q2, 0, none⟩ (.slice D2a ([fS p kb0, fS (1 - p) kb1, fN kb2]).length D2c)) (.slice D2a ([fS p kb0, fS (1 - p) kb1, fN kb2]).length D2c) ([fS p kb0, fS (1 - p) kb1, fN kb2])) := D2.out.setBox T_old
        replace T : Hid (BX 39 (wn302.setCell ⟨q2, 0, none⟩ (.slice D2a ([fS p kb0, fS (1 - p) kb1, fN kb2]).length D2c)) q2 #[.slice D2a ([fS p kb0, fS (1 - p) kb1, fN kb2]).length D2c]) := T.out.set 0 _
        clear T_old
        clear m_q2
        generalize wn302.setCell ⟨q2, 0, none⟩ (.slice D2a ([fS p kb0, fS (1 - p) kb1, fN kb2]).length D2c) = w3 at *
        clear BD
        revert n_X2_q2
        revert n_X1_q2
        revert n_X0_q2
        revert n_D_q2
        revert l_q2
        revert X2
        revert X1
        revert X0
        revert T
        revert RV
        revert RM
        revert LB
        revert D2
        revert D1
        revert D
        revert w3
        revert q2
        revert Rd
        revert Rb
        revert Rc
        revert Ra
        revert D2c
        revert D2a
        exact HG.out
      case w4 =>
        refine  (op_run (d := 14) (v' := .pointer (some ⟨wA202.heap.size, 0, none⟩)) (w' := wA202.alloc (.cells #[.slice none 0 0] 39)) rfl (by go_simp) ⟨KS.out _ (Below.alloc (wA202_b) (Below.size (wA202_b)) _), ?_⟩)
        simp only [Act.put, List.setIfInBounds_toArray, List.set_cons_zero, List.set_cons_succ]
        have bn602 : Below w1n.heap.size w1n (wA202.alloc (.cells #[.slice none 0 0] 39)) := Below.alloc (wA202_b) (Below.size (wA202_b)) _
        have l_q2 : w.heap.size ≤ wA202.heap.size := LB.out.size
        have m_q2 : w1n.heap.size ≤ wA202.heap.size := Below.size (wA202_b)
        have n_X0_q2 : w.heap.size < wA202.heap.size := X0.out.lt
        have n_X1_q2 : (w.heap.size + 1) < wA202.heap.size := X1.out.lt
        have n_X2_q2 : (w.heap.size + 2) < wA202.heap.size := X2.out.lt
        have n_D_q2 : q1 < wA202.heap.size := D.out.lt
        replace LB : Hid (Below w.heap.size w (wA202.alloc (.cells #[.slice none 0 0] 39))) := LB.out.alloc LB.out.size _
        replace X0 : Hid (BX 24 (wA202.alloc (.cells #[.slice none 0 0] 39)) w.heap.size #[.int .i64 T0.step, .int .i64 T0.phase, .bool T0.fresh, .slice a0 T0.vals.length c0, .slice b0 T0.mail.length d0]) := X0.out.below (below_alloc _ _) X0.out.lt
        replace X1 : Hid (BX 24 (wA202.alloc (.cells #[.slice none 0 0] 39)) (w.heap.size + 1) #[.int .i64 T1.step, .int .i64 T1.phase, .bool T1.fresh, .slice a1 T1.vals.length c1, .slice b1 T1.mail.length d1]) := X1.out.below (below_alloc _ _) X1.out.lt
        replace X2 : Hid (BX 24 (wA202.alloc (.cells #[.slice none 0 0] 39)) (w.heap.size + 2) #[.int .i64 T2.step, .int .i64 T2.phase, .bool T2.fresh, .slice a2 T2.vals.length c2, .slice b2 T2.mail.length d2]) := X2.out.below (below_alloc _ _) X2.out.lt
        replace D1 : Hid (DiskR (wA202.alloc (.cells #[.slice none 0 0] 39)) (.slice D1a ([fS p kb0, fS (1 - p) kb1]).length D1c) ([fS p kb0, fS (1 - p) kb1])) := D1.out.below (below_alloc _ _) (Nat.le_refl _)
        replace D : Hid (BX 39 (wA202.alloc (.cells #[.slice none 0 0] 39)) q1 #[.slice D1a ([fS p kb0, fS (1 - p) kb1] : List FileL).length D1c]) := D.out.below (below_alloc _ _) D.out.lt
        replace RV : Hid ((wA202.alloc (.cells #[.slice none 0 0] 39)).ownsRow w.heap.size 53 2 (.slice Ra (keptS T2).vals.length Rc) (keptS T2).vals.length ((keptS T2).vals.flatMap encM)) := own_below RV.out (below_alloc _ _) (Nat.le_refl _)
        replace RM : Hid ((wA202.alloc (.cells #[.slice none 0 0] 39)).ownsRow w.heap.size 62 2 (.slice Rb (keptS T2).mail.length Rd) (keptS T2).mail.length ((keptS T2).mail.flatMap encM)) := own_below RM.out (below_alloc _ _) (Nat.le_refl _)
        have T : Hid (BX 39 (wA202.alloc (.cells #[.slice none 0 0] 39)) wA202.heap.size #[.slice none 0 0]) := BX.new _ _ _
        generalize wA202.alloc (.cells #[.slice none 0 0] 39) = wn602 at *
        generalize wA202.heap.size = q2 at *
        refine oneH (i := 3) rfl (by kernel_rfl) rfl (call_gets (R := fun v w' => ∃ v', v = .tuple #[.agg #[v'], .int .i64 0] ∧ DiskR w' v' ([fS p kb0, fS (1 - p) kb1, fN kb2]) ∧ Below wn602.heap.size wn602 w') (d := 39) (f := 10) (xs := #[.tmp 36, .tmp 38]) (ats := #[39, 28]) rfl rfl eF (vs := #[.agg #[.slice D1a ([fS p kb0, fS (1 - p) kb1] : List FileL).length D1c], .agg #[.int .i64 (keptS T2).step, .int .i64 (keptS T2).phase, .bool (keptS T2).fresh, .slice Ra (keptS T2).vals.length Rc, .slice Rb (keptS T2).mail.length Rd]]) (by simp [Act.eval]) ((CPU.out _ _ _ _ D1.out (RowK.own encM_len RV.out) (RowK.own encM_len RM.out)).mono fun e w' h => by obtain ⟨v', h1, h2, h3⟩ := h; exact ⟨_, h1, v', rfl, h2, h3⟩) ?_)
        rintro v wB602 ⟨v', rfl, hd, hb⟩
        have wB602_b : Below w1n.heap.size w1n wB602 := (bn602).trans (hb.mono (Below.size (bn602)))
        obtain ⟨D2a, D2c, rfl⟩ : ∃ a c, v' = .slice a ([fS p kb0, fS (1 - p) kb1, fN kb2]).length c := by obtain ⟨a, c, e, _⟩ := hd; exact ⟨a, c, e⟩
        replace LB : Hid (Below w.heap.size w wB602) := LB.out.trans (hb.mono LB.out.size)
        replace X0 : Hid (BX 24 wB602 w.heap.size #[.int .i64 T0.step, .int .i64 T0.phase, .bool T0.fresh, .slice a0 T0.vals.length c0, .slice b0 T0.mail.length d0]) := X0.out.below hb X0.out.lt
        replace X1 : Hid (BX 24 wB602 (w.heap.size + 1) #[.int .i64 T1.step, .int .i64 T1.phase, .bool T1.fresh, .slice a1 T1.vals.length c1, .slice b1 T1.mail.length d1]) := X1.out.below hb X1.out.lt
        replace X2 : Hid (BX 24 wB602 (w.heap.size + 2) #[.int .i64 T2.step, .int .i64 T2.phase, .bool T2.fresh, .slice a2 T2.vals.length c2, .slice b2 T2.mail.length d2]) := X2.out.below hb X2.out.lt
        replace D1 : Hid (DiskR wB602 (.slice D1a ([fS p kb0, fS (1 - p) kb1]).length D1c) ([fS p kb0, fS (1 - p) kb1])) := D1.out.below hb (Nat.le_refl _)
        replace D : Hid (BX 39 wB602 q1 #[.slice D1a ([fS p kb0, fS (1 - p) kb1] : List FileL).length D1c]) := D.out.below hb D.out.lt
        replace RV : Hid (wB602.ownsRow w.heap.size 53 2 (.slice Ra (keptS T2).vals.length Rc) (keptS T2).vals.length ((keptS T2).vals.flatMap encM)) := own_below RV.out hb (Nat.le_refl _)
        replace RM : Hid (wB602.ownsRow w.heap.size 62 2 (.slice Rb (keptS T2).mail.length Rd) (keptS T2).mail.length ((keptS T2).mail.flatMap encM)) := own_below RM.out hb (Nat.le_refl _)
        replace T : Hid (BX 39 wB602 q2 #[.slice none 0 0]) := T.out.below hb T.out.lt
        have D2 : Hid (DiskR wB602 (.slice D2a ([fS p kb0, fS (1 - p) kb1, fN kb2]).length D2c) ([fS p kb0, fS (1 - p) kb1, fN kb2])) := hd
        clear hd hb
        refine ⟨KS.out _ wB602_b, ?_⟩
        simp only [Act.put, List.setIfInBounds_toArray, List.set_cons_zero, List.set_cons_succ]
        refine takeH (i := 4) (v := .tuple #[.agg #[.slice D2a ([fS p kb0, fS (1 - p) kb1, fN kb2]).length D2c], .int .i64 0]) (d := 35) rfl rfl (by kernel_rfl) (by kernel_rfl) (by kernel_rfl) (fun _ _ _ h => h) (by rfl) (fun V hV => by have _ := hV; go_simp) (KS.out _ (wB602_b)) ?_
        simp only [Act.put, List.setIfInBounds_toArray, List.set_cons_zero, List.set_cons_succ]
        refine takeH (i := 5) (v := .agg #[.slice D2a ([fS p kb0, fS (1 - p) kb1, fN kb2]).length D2c]) (d := 40) rfl rfl (by kernel_rfl) (by kernel_rfl) (by kernel_rfl) (fun _ _ _ h => h) (by rfl) (fun V hV => by have _ := hV; go_simp) (KS.out _ (wB602_b)) ?_
        simp only [Act.put, List.setIfInBounds_toArray, List.set_cons_zero, List.set_cons_succ]
        refine takeH (i := 6) (v := .int .i64 0) (d := 41) rfl rfl (by kernel_rfl) (by kernel_rfl) (by kernel_rfl) (fun _ _ _ h => h) (by rfl) (fun V hV => by have _ := hV; go_simp) (KS.out _ (wB602_b)) ?_
        simp only [Act.put, List.setIfInBounds_toArray, List.set_cons_zero, List.set_cons_succ]
        have z602_0 : wB602.cell? ⟨q2, 0, none⟩ = some (.slice none 0 0) := T.out.cell 0
        have y603_0 : wB602.frozen? ⟨q2, 0, none⟩ = false := T.out.frozen 0
        have bz604 : Below w1n.heap.size w1n (wB602.setCell ⟨q2, 0, none⟩ (.slice D2a ([fS p kb0, fS (1 - p) kb1, fN kb2]).length D2c)) := Below.setCell (wB602_b) m_q2 _
        refine oneH (i := 8) rfl (by kernel_rfl) rfl (op_skip (w' := wB602.setCell ⟨q2, 0, none⟩ (.slice D2a ([fS p kb0, fS (1 - p) kb1, fN kb2]).length D2c)) rfl (by go_simp) ⟨KS.out _ bz604, ?_⟩)
        refine takeH (i := 9) (v := .int .i64 0) (d := 15) rfl rfl (by kernel_rfl) (by kernel_rfl) (by kernel_rfl) (fun _ _ _ h => h) (by rfl) (fun V hV => by have _ := hV; go_simp) (KS.out _ (bz604)) ?_
        simp only [Act.put, List.setIfInBounds_toArray, List.set_cons_zero, List.set_cons_succ]
        refine wpAnyH_done (by kernel_rfl) ?_ _
        clear z602_0 y603_0 bz604
        have T_old := T.out
        replace LB : Hid (Below w.heap.size w (wB602.setCell ⟨q2, 0, none⟩ (.slice D2a ([fS p kb0, fS (1 - p) kb1, fN kb2]).length D2c))) := LB.out.setCell (show w.heap.size ≤ q2 by omega) _
        replace X0 : Hid (BX 24 (wB602.setCell ⟨q2, 0, none⟩ (.slice D2a ([fS p kb0, fS (1 - p) kb1, fN kb2]).length D2c)) w.heap.size #[.int .i64 T0.step, .int .i64 T0.phase, .bool T0.fresh, .slice a0 T0.vals.length c0, .slice b0 T0.mail.length d0]) := X0.out.other (by omega)
        replace X1 : Hid (BX 24 (wB602.setCell ⟨q2, 0, none⟩ (.slice D2a ([fS p kb0, fS (1 - p) kb1, fN kb2]).length D2c)) (w.heap.size + 1) #[.int .i64 T1.step, .int .i64 T1.phase, .bool T1.fresh, .slice a1 T1.vals.length c1, .slice b1 T1.mail.length d1]) := X1.out.other (by omega)
        replace X2 : Hid (BX 24 (wB602.setCell ⟨q2, 0, none⟩ (.slice D2a ([fS p kb0, fS (1 - p) kb1, fN kb2]).length D2c)) (w.heap.size + 2) #[.int .i64 T2.step, .int .i64 T2.phase, .bool T2.fresh, .slice a2 T2.vals.length c2, .slice b2 T2.mail.length d2]) := X2.out.other (by omega)
        replace D1 : Hid (DiskR (wB602.setCell ⟨q2, 0, none⟩ (.slice D2a ([fS p kb0, fS (1 - p) kb1, fN kb2]).length D2c)) (.slice D1a ([fS p kb0, fS (1 - p) kb1]).length D1c) ([fS p kb0, fS (1 - p) kb1])) := D1.out.setBox T_old
        replace D : Hid (BX 39 (wB602.setCell ⟨q2, 0, none⟩ (.slice D2a ([fS p kb0, fS (1 - p) kb1, fN kb2]).length D2c)) q1 #[.slice D1a ([fS p kb0, fS (1 - p) kb1] : List FileL).length D1c]) := D.out.other (by omega)
        replace RV : Hid ((wB602.setCell ⟨q2, 0, none⟩ (.slice D2a ([fS p kb0, fS (1 - p) kb1, fN kb2]).length D2c)).ownsRow w.heap.size 53 2 (.slice Ra (keptS T2).vals.length Rc) (keptS T2).vals.length ((keptS T2).vals.flatMap encM)) := T_old.own RV.out (by decide)
        replace RM : Hid ((wB602.setCell ⟨q2, 0, none⟩ (.slice D2a ([fS p kb0, fS (1 - p) kb1, fN kb2]).length D2c)).ownsRow w.heap.size 62 2 (.slice Rb (keptS T2).mail.length Rd) (keptS T2).mail.length ((keptS T2).mail.flatMap encM)) := T_old.own RM.out (by decide)
        replace T : Hid (BX 39 (wB602.setCell ⟨q2, 0, none⟩ (.slice D2a ([fS p kb0, fS (1 - p) kb1, fN kb2]).length D2c)) q2 #[.slice D2a ([fS p kb0, fS (1 - p) kb1, fN kb2]).length D2c]) := T.out.set 0 _
        replace D2 : Hid (DiskR (wB602.setCell ⟨q2, 0, none⟩ (.slice D2a ([fS p kb0, fS (1 - p) kb1, fN kb2]).length D2c)) (.slice D2a ([fS p kb0, fS (1 - p) kb1, fN kb2]).length D2c) ([fS p kb0, fS (1 - p) kb1, fN kb2])) := D2.out.setBox T_old
        clear T_old
        clear m_q2
        generalize wB602.setCell ⟨q2, 0, none⟩ (.slice D2a ([fS p kb0, fS (1 - p) kb1, fN kb2]).length D2c) = w3 at *
        exact HG.out D2a D2c Ra Rc Rb Rd q2 w3 D D1 D2 LB RM RV T X0 X1 X2 l_q2 n_D_q2 n_X0_q2 n_X1_q2 n_X2_q2
    case w2 =>
      refine  (op_run (d := 14) (v' := .pointer (some ⟨w1n.heap.size, 0, none⟩)) (w' := w1n.drew.alloc (.cells #[.slice none 0 0] 39)) rfl (by go_simp) ⟨KS.out _ (Below.alloc (BD) (Below.size (BD)) _), ?_⟩)
      simp only [Act.put, List.setIfInBounds_toArray, List.set_cons_zero, List.set_cons_succ]
      have bn902 : Below w1n.heap.size w1n (w1n.drew.alloc (.cells #[.slice none 0 0] 39)) := Below.alloc (BD) (Below.size (BD)) _
      have l_q2 : w.heap.size ≤ w1n.heap.size := LB.out.size
      have m_q2 : w1n.heap.size ≤ w1n.heap.size := Nat.le_refl _
      have n_X0_q2 : w.heap.size < w1n.heap.size := X0.out.lt
      have n_X1_q2 : (w.heap.size + 1) < w1n.heap.size := X1.out.lt
      have n_X2_q2 : (w.heap.size + 2) < w1n.heap.size := X2.out.lt
      have n_D_q2 : q1 < w1n.heap.size := D.out.lt
      replace LB : Hid (Below w.heap.size w (w1n.drew.alloc (.cells #[.slice none 0 0] 39))) := LB.out.alloc LB.out.size _
      replace X0 : Hid (BX 24 (w1n.drew.alloc (.cells #[.slice none 0 0] 39)) w.heap.size #[.int .i64 T0.step, .int .i64 T0.phase, .bool T0.fresh, .slice a0 T0.vals.length c0, .slice b0 T0.mail.length d0]) := X0.out.below (below_alloc _ _) X0.out.lt
      replace X1 : Hid (BX 24 (w1n.drew.alloc (.cells #[.slice none 0 0] 39)) (w.heap.size + 1) #[.int .i64 T1.step, .int .i64 T1.phase, .bool T1.fresh, .slice a1 T1.vals.length c1, .slice b1 T1.mail.length d1]) := X1.out.below (below_alloc _ _) X1.out.lt
      replace X2 : Hid (BX 24 (w1n.drew.alloc (.cells #[.slice none 0 0] 39)) (w.heap.size + 2) #[.int .i64 T2.step, .int .i64 T2.phase, .bool T2.fresh, .slice a2 T2.vals.length c2, .slice b2 T2.mail.length d2]) := X2.out.below (below_alloc _ _) X2.out.lt
      replace D1 : Hid (DiskR (w1n.drew.alloc (.cells #[.slice none 0 0] 39)) (.slice D1a ([fS p kb0, fS (1 - p) kb1]).length D1c) ([fS p kb0, fS (1 - p) kb1])) := D1.out.below (below_alloc _ _) (Nat.le_refl _)
      replace D : Hid (BX 39 (w1n.drew.alloc (.cells #[.slice none 0 0] 39)) q1 #[.slice D1a ([fS p kb0, fS (1 - p) kb1] : List FileL).length D1c]) := D.out.below (below_alloc _ _) D.out.lt
      have T : Hid (BX 39 (w1n.drew.alloc (.cells #[.slice none 0 0] 39)) w1n.heap.size #[.slice none 0 0]) := BX.new _ _ _
      generalize w1n.drew.alloc (.cells #[.slice none 0 0] 39) = wn902 at *
      obtain ⟨q2, hq9⟩ : ∃ b, b = w1n.heap.size := ⟨_, rfl⟩
      rw [← hq9] at T l_q2 n_X0_q2 n_X1_q2 n_X2_q2 n_D_q2 ⊢
      replace m_q2 : w1n.heap.size ≤ q2 := by omega
      clear hq9
      refine oneH (i := 2) rfl (by kernel_rfl) rfl (call_gets (R := fun v w' => ∃ v1 v2, v = .agg #[.int .i64 (keptS T2).step, .int .i64 (keptS T2).phase, .bool (keptS T2).fresh, v1, v2] ∧ w'.ownsRow wn902.heap.size 53 2 v1 (keptS T2).vals.length ((keptS T2).vals.flatMap encM) ∧ w'.ownsRow wn902.heap.size 62 2 v2 (keptS T2).mail.length ((keptS T2).mail.flatMap encM) ∧ Below wn902.heap.size wn902 w') (d := 38) (f := 6) (xs := #[.tmp 37]) (ats := #[24]) rfl rfl eA (vs := #[.agg #[.int .i64 T2.step, .int .i64 T2.phase, .bool T2.fresh, .slice a2 T2.vals.length c2, .slice b2 T2.mail.length d2]]) (by simp [Act.eval]) ((CK2.out _ LB.out).mono fun e w' h => by obtain ⟨v1, v2, h1, h2, h3, h4⟩ := h; exact ⟨_, h1, v1, v2, rfl, h2, h3, h4⟩) ?_)
      rintro v wA902 ⟨v1, v2, rfl, ho1, ho2, hb⟩
      have wA902_b : Below w1n.heap.size w1n wA902 := (bn902).trans (hb.mono (Below.size (bn902)))
      obtain ⟨Ra, Rc, rfl⟩ := (RowK.own encM_len ho1 : MlR wA902 v1 (keptS T2).vals).shape
      obtain ⟨Rb, Rd, rfl⟩ := (RowK.own encM_len ho2 : MlR wA902 v2 (keptS T2).mail).shape
      have hle := LB.out.size
      replace LB : Hid (Below w.heap.size w wA902) := LB.out.trans (hb.mono LB.out.size)
      replace X0 : Hid (BX 24 wA902 w.heap.size #[.int .i64 T0.step, .int .i64 T0.phase, .bool T0.fresh, .slice a0 T0.vals.length c0, .slice b0 T0.mail.length d0]) := X0.out.below hb X0.out.lt
      replace X1 : Hid (BX 24 wA902 (w.heap.size + 1) #[.int .i64 T1.step, .int .i64 T1.phase, .bool T1.fresh, .slice a1 T1.vals.length c1, .slice b1 T1.mail.length d1]) := X1.out.below hb X1.out.lt
      replace X2 : Hid (BX 24 wA902 (w.heap.size + 2) #[.int .i64 T2.step, .int .i64 T2.phase, .bool T2.fresh, .slice a2 T2.vals.length c2, .slice b2 T2.mail.length d2]) := X2.out.below hb X2.out.lt
      replace D1 : Hid (DiskR wA902 (.slice D1a ([fS p kb0, fS (1 - p) kb1]).length D1c) ([fS p kb0, fS (1 - p) kb1])) := D1.out.below hb (Nat.le_refl _)
      replace D : Hid (BX 39 wA902 q1 #[.slice D1a ([fS p kb0, fS (1 - p) kb1] : List FileL).length D1c]) := D.out.below hb D.out.lt
      replace T : Hid (BX 39 wA902 q2 #[.slice none 0 0]) := T.out.below hb T.out.lt
      have RV : Hid (wA902.ownsRow w.heap.size 53 2 (.slice Ra (keptS T2).vals.length Rc) (keptS T2).vals.length ((keptS T2).vals.flatMap encM)) := own_lower ho1 hle
      have RM : Hid (wA902.ownsRow w.heap.size 62 2 (.slice Rb (keptS T2).mail.length Rd) (keptS T2).mail.length ((keptS T2).mail.flatMap encM)) := own_lower ho2 hle
      clear ho1 ho2 hb hle
      refine ⟨KS.out _ wA902_b, ?_⟩
      simp only [Act.put, List.setIfInBounds_toArray, List.set_cons_zero, List.set_cons_succ]
      refine oneH (i := 3) rfl (by kernel_rfl) rfl (call_gets (R := fun v w' => ∃ v', v = .tuple #[.agg #[v'], .int .i64 0] ∧ DiskR w' v' ([fS p kb0, fS (1 - p) kb1, fN kb2]) ∧ Below wA902.heap.size wA902 w') (d := 39) (f := 10) (xs := #[.tmp 36, .tmp 38]) (ats := #[39, 28]) rfl rfl eF (vs := #[.agg #[.slice D1a ([fS p kb0, fS (1 - p) kb1] : List FileL).length D1c], .agg #[.int .i64 (keptS T2).step, .int .i64 (keptS T2).phase, .bool (keptS T2).fresh, .slice Ra (keptS T2).vals.length Rc, .slice Rb (keptS T2).mail.length Rd]]) (by simp [Act.eval]) ((CPU.out _ _ _ _ D1.out (RowK.own encM_len RV.out) (RowK.own encM_len RM.out)).mono fun e w' h => by obtain ⟨v', h1, h2, h3⟩ := h; exact ⟨_, h1, v', rfl, h2, h3⟩) ?_)
      rintro v wB902 ⟨v', rfl, hd, hb⟩
      have wB902_b : Below w1n.heap.size w1n wB902 := (wA902_b).trans (hb.mono (Below.size (wA902_b)))
      obtain ⟨D2a, D2c, rfl⟩ : ∃ a c, v' = .slice a ([fS p kb0, fS (1 - p) kb1, fN kb2]).length c := by obtain ⟨a, c, e, _⟩ := hd; exact ⟨a, c, e⟩
      replace LB : Hid (Below w.heap.size w wB902) := LB.out.trans (hb.mono LB.out.size)
      replace X0 : Hid (BX 24 wB902 w.heap.size #[.int .i64 T0.step, .int .i64 T0.phase, .bool T0.fresh, .slice a0 T0.vals.length c0, .slice b0 T0.mail.length d0]) := X0.out.below hb X0.out.lt
      replace X1 : Hid (BX 24 wB902 (w.heap.size + 1) #[.int .i64 T1.step, .int .i64 T1.phase, .bool T1.fresh, .slice a1 T1.vals.length c1, .slice b1 T1.mail.length d1]) := X1.out.below hb X1.out.lt
      replace X2 : Hid (BX 24 wB902 (w.heap.size + 2) #[.int .i64 T2.step, .int .i64 T2.phase, .bool T2.fresh, .slice a2 T2.vals.length c2, .slice b2 T2.mail.length d2]) := X2.out.below hb X2.out.lt
      replace D1 : Hid (DiskR wB902 (.slice D1a ([fS p kb0, fS (1 - p) kb1]).length D1c) ([fS p kb0, fS (1 - p) kb1])) := D1.out.below hb (Nat.le_refl _)
      replace D : Hid (BX 39 wB902 q1 #[.slice D1a ([fS p kb0, fS (1 - p) kb1] : List FileL).length D1c]) := D.out.below hb D.out.lt
      replace T : Hid (BX 39 wB902 q2 #[.slice none 0 0]) := T.out.below hb T.out.lt
      replace RV : Hid (wB902.ownsRow w.heap.size 53 2 (.slice Ra (keptS T2).vals.length Rc) (keptS T2).vals.length ((keptS T2).vals.flatMap encM)) := own_below RV.out hb (Nat.le_refl _)
      replace RM : Hid (wB902.ownsRow w.heap.size 62 2 (.slice Rb (keptS T2).mail.length Rd) (keptS T2).mail.length ((keptS T2).mail.flatMap encM)) := own_below RM.out hb (Nat.le_refl _)
      have D2 : Hid (DiskR wB902 (.slice D2a ([fS p kb0, fS (1 - p) kb1, fN kb2]).length D2c) ([fS p kb0, fS (1 - p) kb1, fN kb2])) := hd
      clear hd hb
      refine ⟨KS.out _ wB902_b, ?_⟩
      simp only [Act.put, List.setIfInBounds_toArray, List.set_cons_zero, List.set_cons_succ]
      refine takeH (i := 4) (v := .tuple #[.agg #[.slice D2a ([fS p kb0, fS (1 - p) kb1, fN kb2]).length D2c], .int .i64 0]) (d := 35) rfl rfl (by kernel_rfl) (by kernel_rfl) (by kernel_rfl) (fun _ _ _ h => h) (by rfl) (fun V hV => by have _ := hV; go_simp) (KS.out _ (wB902_b)) ?_
      simp only [Act.put, List.setIfInBounds_toArray, List.set_cons_zero, List.set_cons_succ]
      refine takeH (i := 5) (v := .agg #[.slice D2a ([fS p kb0, fS (1 - p) kb1, fN kb2]).length D2c]) (d := 40) rfl rfl (by kernel_rfl) (by kernel_rfl) (by kernel_rfl) (fun _ _ _ h => h) (by rfl) (fun V hV => by have _ := hV; go_simp) (KS.out _ (wB902_b)) ?_
      simp only [Act.put, List.setIfInBounds_toArray, List.set_cons_zero, List.set_cons_succ]
      refine takeH (i := 6) (v := .int .i64 0) (d := 41) rfl rfl (by kernel_rfl) (by kernel_rfl) (by kernel_rfl) (fun _ _ _ h => h) (by rfl) (fun V hV => by have _ := hV; go_simp) (KS.out _ (wB902_b)) ?_
      simp only [Act.put, List.setIfInBounds_toArray, List.set_cons_zero, List.set_cons_succ]
      have z902_0 : wB902.cell? ⟨q2, 0, none⟩ = some (.slice none 0 0) := T.out.cell 0
      have y903_0 : wB902.frozen? ⟨q2, 0, none⟩ = false := T.out.frozen 0
      have bz904 : Below w1n.heap.size w1n (wB902.setCell ⟨q2, 0, none⟩ (.slice D2a ([fS p kb0, fS (1 - p) kb1, fN kb2]).length D2c)) := Below.setCell (wB902_b) m_q2 _
      refine oneH (i := 8) rfl (by kernel_rfl) rfl (op_skip (w' := wB902.setCell ⟨q2, 0, none⟩ (.slice D2a ([fS p kb0, fS (1 - p) kb1, fN kb2]).length D2c)) rfl (by go_simp) ⟨KS.out _ bz904, ?_⟩)
      refine takeH (i := 9) (v := .int .i64 0) (d := 15) rfl rfl (by kernel_rfl) (by kernel_rfl) (by kernel_rfl) (fun _ _ _ h => h) (by rfl) (fun V hV => by have _ := hV; go_simp) (KS.out _ (bz904)) ?_
      simp only [Act.put, List.setIfInBounds_toArray, List.set_cons_zero, List.set_cons_succ]
      refine wpAnyH_done (by kernel_rfl) ?_ _
      clear z902_0 y903_0 bz904
      have T_old := T.out
      replace LB : Hid (Below w.heap.size w (wB902.setCell ⟨q2, 0, none⟩ (.slice D2a ([fS p kb0, fS (1 - p) kb1, fN kb2]).length D2c))) := LB.out.setCell (show w.heap.size ≤ q2 by omega) _
      replace X0 : Hid (BX 24 (wB902.setCell ⟨q2, 0, none⟩ (.slice D2a ([fS p kb0, fS (1 - p) kb1, fN kb2]).length D2c)) w.heap.size #[.int .i64 T0.step, .int .i64 T0.phase, .bool T0.fresh, .slice a0 T0.vals.length c0, .slice b0 T0.mail.length d0]) := X0.out.other (by omega)
      replace X1 : Hid (BX 24 (wB902.setCell ⟨q2, 0, none⟩ (.slice D2a ([fS p kb0, fS (1 - p) kb1, fN kb2]).length D2c)) (w.heap.size + 1) #[.int .i64 T1.step, .int .i64 T1.phase, .bool T1.fresh, .slice a1 T1.vals.length c1, .slice b1 T1.mail.length d1]) := X1.out.other (by omega)
      replace X2 : Hid (BX 24 (wB902.setCell ⟨q2, 0, none⟩ (.slice D2a ([fS p kb0, fS (1 - p) kb1, fN kb2]).length D2c)) (w.heap.size + 2) #[.int .i64 T2.step, .int .i64 T2.phase, .bool T2.fresh, .slice a2 T2.vals.length c2, .slice b2 T2.mail.length d2]) := X2.out.other (by omega)
      replace D1 : Hid (DiskR (wB902.setCell ⟨q2, 0, none⟩ (.slice D2a ([fS p kb0, fS (1 - p) kb1, fN kb2]).length D2c)) (.slice D1a ([fS p kb0, fS (1 - p) kb1]).length D1c) ([fS p kb0, fS (1 - p) kb1])) := D1.out.setBox T_old
      replace D : Hid (BX 39 (wB902.setCell ⟨q2, 0, none⟩ (.slice D2a ([fS p kb0, fS (1 - p) kb1, fN kb2]).length D2c)) q1 #[.slice D1a ([fS p kb0, fS (1 - p) kb1] : List FileL).length D1c]) := D.out.other (by omega)
      replace T : Hid (BX 39 (wB902.setCell ⟨q2, 0, none⟩ (.slice D2a ([fS p kb0, fS (1 - p) kb1, fN kb2]).length D2c)) q2 #[.slice D2a ([fS p kb0, fS (1 - p) kb1, fN kb2]).length D2c]) := T.out.set 0 _
      replace RV : Hid ((wB902.setCell ⟨q2, 0, none⟩ (.slice D2a ([fS p kb0, fS (1 - p) kb1, fN kb2]).length D2c)).ownsRow w.heap.size 53 2 (.slice Ra (keptS T2).vals.length Rc) (keptS T2).vals.length ((keptS T2).vals.flatMap encM)) := T_old.own RV.out (by decide)
      replace RM : Hid ((wB902.setCell ⟨q2, 0, none⟩ (.slice D2a ([fS p kb0, fS (1 - p) kb1, fN kb2]).length D2c)).ownsRow w.heap.size 62 2 (.slice Rb (keptS T2).mail.length Rd) (keptS T2).mail.length ((keptS T2).mail.flatMap encM)) := T_old.own RM.out (by decide)
      replace D2 : Hid (DiskR (wB902.setCell ⟨q2, 0, none⟩ (.slice D2a ([fS p kb0, fS (1 - p) kb1, fN kb2]).length D2c)) (.slice D2a ([fS p kb0, fS (1 - p) kb1, fN kb2]).length D2c) ([fS p kb0, fS (1 - p) kb1, fN kb2])) := D2.out.setBox T_old
      clear T_old
      clear m_q2
      generalize wB902.setCell ⟨q2, 0, none⟩ (.slice D2a ([fS p kb0, fS (1 - p) kb1, fN kb2]).length D2c) = w3 at *
      exact HG.out D2a D2c Ra Rc Rb Rd q2 w3 D D1 D2 LB RM RV T X0 X1 X2 l_q2 n_D_q2 n_X0_q2 n_X1_q2 n_X2_q2
  clear KS
  clear D D1 LB X0 X1 X2
  intro D2a D2c Ra Rc Rb Rd q2 w3 D D1 D2 LB RM RV T X0 X1 X2 l_q2 n_D_q2 n_X0_q2 n_X1_q2 n_X2_q2
  go_upto_region 4 with fail
  clear RV
  clear RM
  clear D1
  clear D
  have z2002_0 : w3.cell? ⟨q2, 0, none⟩ = some (.slice D2a ([fS p kb0, fS (1 - p) kb1, fN kb2]).length D2c) := T.out.cell 0
  have BD : Below w3.heap.size w3 w3.drew := (Below.refl _ _).drew
  have KS : Hid (∀ V, Below w3.heap.size w3 V → V.cell? ⟨q2, 0, none⟩ = some (.slice D2a ([fS p kb0, fS (1 - p) kb1, fN kb2]).length D2c)) := fun V h => (T.out.below h T.out.lt).cell 0
  replace LB : Hid (Below w.heap.size w w3.drew) := LB.out.trans (BD.mono LB.out.size)
  replace X0 : Hid (BX 24 w3.drew w.heap.size #[.int .i64 T0.step, .int .i64 T0.phase, .bool T0.fresh, .slice a0 T0.vals.length c0, .slice b0 T0.mail.length d0]) := X0.out.below BD X0.out.lt
  replace X1 : Hid (BX 24 w3.drew (w.heap.size + 1) #[.int .i64 T1.step, .int .i64 T1.phase, .bool T1.fresh, .slice a1 T1.vals.length c1, .slice b1 T1.mail.length d1]) := X1.out.below BD X1.out.lt
  replace X2 : Hid (BX 24 w3.drew (w.heap.size + 2) #[.int .i64 T2.step, .int .i64 T2.phase, .bool T2.fresh, .slice a2 T2.vals.length c2, .slice b2 T2.mail.length d2]) := X2.out.below BD X2.out.lt
  replace D2 : Hid (DiskR w3.drew (.slice D2a ([fS p kb0, fS (1 - p) kb1, fN kb2]).length D2c) ([fS p kb0, fS (1 - p) kb1, fN kb2])) := D2.out.below BD (Nat.le_refl _)
  replace T : Hid (BX 39 w3.drew q2 #[.slice D2a ([fS p kb0, fS (1 - p) kb1, fN kb2]).length D2c]) := T.out.below BD T.out.lt
  refine wp_region_late (fun V => V.cell? ⟨q2, 0, none⟩ = some (.slice D2a ([fS p kb0, fS (1 - p) kb1, fN kb2]).length D2c)) (fun j => j == 7) (by kernel_rfl) ?_
  simp only [List.size_toArray, List.length_cons, List.length_nil, Nat.reduceAdd]
  refine takeL (i := 0) (v := .agg #[.slice D2a ([fS p kb0, fS (1 - p) kb1, fN kb2]).length D2c]) (d := 43) rfl rfl (by kernel_rfl) (by kernel_rfl) (by kernel_rfl) (by kernel_rfl) (fun _ _ _ h => h) (by rfl) (fun V hV => by have _ := hV; go_simp) (KS.out _ BD) ?_
  simp only [Act.put, List.setIfInBounds_toArray, List.set_cons_zero, List.set_cons_succ]
  refine takeL (i := 1) (v := .int .i64 n4) (d := 44) rfl rfl (by kernel_rfl) (by kernel_rfl) (by kernel_rfl) (by kernel_rfl) (fun _ _ _ h => h) (by rfl) (fun V hV => by have _ := hV; go_simp) (KS.out _ BD) ?_
  simp only [Act.put, List.setIfInBounds_toArray, List.set_cons_zero, List.set_cons_succ]
  refine oneL (i := 2) rfl (by kernel_rfl) rfl (call_same (d := 45) (f := 7) (xs := #[.tmp 44, .const (.int .i64 200)]) (ats := #[3, 3]) rfl rfl eP (vs := #[.int .i64 n4, .int .i64 200]) (by simp [Act.eval]) (CQ.out _) ⟨fun _ => KS.out _ BD, ?_⟩)
  simp only [Act.put, List.setIfInBounds_toArray, List.set_cons_zero, List.set_cons_succ]
  refine oneL (i := 3) rfl (by kernel_rfl) rfl (call_gets (R := fun v w' => ∃ v', v = .tuple #[.agg #[v'], .int .i64 0] ∧ DiskR w' v' ([fS p kb0, fS (1 - p) kb1, cut]) ∧ Below w3.drew.heap.size w3.drew w') (d := 46) (f := 12) (xs := #[.tmp 43, .tmp 45]) (ats := #[39, 3]) rfl rfl eC (vs := #[.agg #[.slice D2a ([fS p kb0, fS (1 - p) kb1, fN kb2] : List FileL).length D2c], .int .i64 kp]) (by simp [Act.eval]) ((CCR.out _ _ D2.out).mono fun e w' h => by obtain ⟨v', h1, h2, h3⟩ := h; exact ⟨_, h1, v', rfl, h2, h3⟩) ?_)
  rintro v wF5 ⟨v', rfl, hd, hb⟩
  have BF : Below w3.heap.size w3 wF5 := BD.trans (hb.mono BD.size)
  obtain ⟨D3a, D3c, rfl⟩ : ∃ a c, v' = .slice a ([fS p kb0, fS (1 - p) kb1, cut]).length c := by obtain ⟨a, c, e, _⟩ := hd; exact ⟨a, c, e⟩
  replace LB : Hid (Below w.heap.size w wF5) := LB.out.trans (hb.mono LB.out.size)
  replace X0 : Hid (BX 24 wF5 w.heap.size #[.int .i64 T0.step, .int .i64 T0.phase, .bool T0.fresh, .slice a0 T0.vals.length c0, .slice b0 T0.mail.length d0]) := X0.out.below hb X0.out.lt
  replace X1 : Hid (BX 24 wF5 (w.heap.size + 1) #[.int .i64 T1.step, .int .i64 T1.phase, .bool T1.fresh, .slice a1 T1.vals.length c1, .slice b1 T1.mail.length d1]) := X1.out.below hb X1.out.lt
  replace X2 : Hid (BX 24 wF5 (w.heap.size + 2) #[.int .i64 T2.step, .int .i64 T2.phase, .bool T2.fresh, .slice a2 T2.vals.length c2, .slice b2 T2.mail.length d2]) := X2.out.below hb X2.out.lt
  replace D2 : Hid (DiskR wF5 (.slice D2a ([fS p kb0, fS (1 - p) kb1, fN kb2]).length D2c) ([fS p kb0, fS (1 - p) kb1, fN kb2])) := D2.out.below hb (Nat.le_refl _)
  replace T : Hid (BX 39 wF5 q2 #[.slice D2a ([fS p kb0, fS (1 - p) kb1, fN kb2]).length D2c]) := T.out.below hb T.out.lt
  have D3 : Hid (DiskR wF5 (.slice D3a ([fS p kb0, fS (1 - p) kb1, cut]).length D3c) ([fS p kb0, fS (1 - p) kb1, cut])) := hd
  clear hd hb
  refine ⟨fun _ => KS.out _ BF, ?_⟩
  simp only [Act.put, List.setIfInBounds_toArray, List.set_cons_zero, List.set_cons_succ]
  show wpAnyL _ _ _ _ _ _ _ true _ _ _
  refine takeL (i := 4) (v := .tuple #[.agg #[.slice D3a ([fS p kb0, fS (1 - p) kb1, cut]).length D3c], .int .i64 0]) (d := 42) rfl rfl (by kernel_rfl) (by kernel_rfl) (by kernel_rfl) (by kernel_rfl) (fun _ _ _ h => h) (by rfl) (fun V hV => by have _ := hV; go_simp) (KS.out _ BF) ?_
  simp only [Act.put, List.setIfInBounds_toArray, List.set_cons_zero, List.set_cons_succ]
  refine takeL (i := 5) (v := .agg #[.slice D3a ([fS p kb0, fS (1 - p) kb1, cut]).length D3c]) (d := 47) rfl rfl (by kernel_rfl) (by kernel_rfl) (by kernel_rfl) (by kernel_rfl) (fun _ _ _ h => h) (by rfl) (fun V hV => by have _ := hV; go_simp) (KS.out _ BF) ?_
  simp only [Act.put, List.setIfInBounds_toArray, List.set_cons_zero, List.set_cons_succ]
  refine takeP (i := 6) (v := .int .i64 0) (d := 48) rfl rfl (by kernel_rfl) (by kernel_rfl) (by kernel_rfl) rfl (fun _ _ _ h => h) (by rfl) (fun V => by go_simp) (fun _ => KS.out _ BF) ?_
  simp only [Act.put, List.setIfInBounds_toArray, List.set_cons_zero, List.set_cons_succ]
  clear z2002_0
  have z2003_0 : wF5.cell? ⟨q2, 0, none⟩ = some (.slice D2a ([fS p kb0, fS (1 - p) kb1, fN kb2]).length D2c) := T.out.cell 0
  have y2004_0 : wF5.frozen? ⟨q2, 0, none⟩ = false := T.out.frozen 0
  refine oneL (i := 7) rfl (by kernel_rfl) rfl (op_skip (w' := wF5.setCell ⟨q2, 0, none⟩ (.slice D3a ([fS p kb0, fS (1 - p) kb1, cut]).length D3c)) rfl (by go_simp) ⟨fun h9 => (by cases h9), ?_⟩)
  refine oneL (i := 8) rfl (by kernel_rfl) rfl (op_run (d := 16) (v' := .int .i64 0) (w' := wF5.setCell ⟨q2, 0, none⟩ (.slice D3a ([fS p kb0, fS (1 - p) kb1, cut]).length D3c)) rfl (by go_simp) ⟨fun h9 => (by cases h9), ?_⟩)
  simp only [Act.put, List.setIfInBounds_toArray, List.set_cons_zero, List.set_cons_succ]
  refine doneL (by kernel_rfl) ?_
  clear z2003_0 y2004_0 KS BF
  have T_old := T.out
  replace LB : Hid (Below w.heap.size w (wF5.setCell ⟨q2, 0, none⟩ (.slice D3a ([fS p kb0, fS (1 - p) kb1, cut]).length D3c))) := LB.out.setCell (show w.heap.size ≤ q2 by omega) _
  replace X0 : Hid (BX 24 (wF5.setCell ⟨q2, 0, none⟩ (.slice D3a ([fS p kb0, fS (1 - p) kb1, cut]).length D3c)) w.heap.size #[.int .i64 T0.step, .int .i64 T0.phase, .bool T0.fresh, .slice a0 T0.vals.length c0, .slice b0 T0.mail.length d0]) := X0.out.other (by omega)
  replace X1 : Hid (BX 24 (wF5.setCell ⟨q2, 0, none⟩ (.slice D3a ([fS p kb0, fS (1 - p) kb1, cut]).length D3c)) (w.heap.size + 1) #[.int .i64 T1.step, .int .i64 T1.phase, .bool T1.fresh, .slice a1 T1.vals.length c1, .slice b1 T1.mail.length d1]) := X1.out.other (by omega)
  replace X2 : Hid (BX 24 (wF5.setCell ⟨q2, 0, none⟩ (.slice D3a ([fS p kb0, fS (1 - p) kb1, cut]).length D3c)) (w.heap.size + 2) #[.int .i64 T2.step, .int .i64 T2.phase, .bool T2.fresh, .slice a2 T2.vals.length c2, .slice b2 T2.mail.length d2]) := X2.out.other (by omega)
  replace D2 : Hid (DiskR (wF5.setCell ⟨q2, 0, none⟩ (.slice D3a ([fS p kb0, fS (1 - p) kb1, cut]).length D3c)) (.slice D2a ([fS p kb0, fS (1 - p) kb1, fN kb2]).length D2c) ([fS p kb0, fS (1 - p) kb1, fN kb2])) := D2.out.setBox T_old
  replace T : Hid (BX 39 (wF5.setCell ⟨q2, 0, none⟩ (.slice D3a ([fS p kb0, fS (1 - p) kb1, cut]).length D3c)) q2 #[.slice D3a ([fS p kb0, fS (1 - p) kb1, cut]).length D3c]) := T.out.set 0 _
  replace D3 : Hid (DiskR (wF5.setCell ⟨q2, 0, none⟩ (.slice D3a ([fS p kb0, fS (1 - p) kb1, cut]).length D3c)) (.slice D3a ([fS p kb0, fS (1 - p) kb1, cut]).length D3c) ([fS p kb0, fS (1 - p) kb1, cut])) := D3.out.setBox T_old
  clear T_old
  generalize wF5.setCell ⟨q2, 0, none⟩ (.slice D3a ([fS p kb0, fS (1 - p) kb1, cut]).length D3c) = w4 at *
  try clear BD
  go_upto_region 5 with fail
  clear D2
  have z2005_0 : w4.cell? ⟨q2, 0, none⟩ = some (.slice D3a ([fS p kb0, fS (1 - p) kb1, cut]).length D3c) := T.out.cell 0
  go_wp2_with fail
  refine (CLA.out _ _ D3.out).mono ?_
  rintro e w5 ⟨v1, v2, rfl, ho1, ho2, hb⟩
  obtain ⟨Aa, Ac, rfl⟩ := (RowK.own encM_len ho1 : MlR w5 v1 (keptS T0).vals).shape
  obtain ⟨Ab, Ad, rfl⟩ := (RowK.own encM_len ho2 : MlR w5 v2 (keptS T0).mail).shape
  have hle := LB.out.size
  replace LB : Hid (Below w.heap.size w w5) := LB.out.trans (hb.mono LB.out.size)
  replace X0 : Hid (BX 24 w5 w.heap.size #[.int .i64 T0.step, .int .i64 T0.phase, .bool T0.fresh, .slice a0 T0.vals.length c0, .slice b0 T0.mail.length d0]) := X0.out.below hb X0.out.lt
  replace X1 : Hid (BX 24 w5 (w.heap.size + 1) #[.int .i64 T1.step, .int .i64 T1.phase, .bool T1.fresh, .slice a1 T1.vals.length c1, .slice b1 T1.mail.length d1]) := X1.out.below hb X1.out.lt
  replace X2 : Hid (BX 24 w5 (w.heap.size + 2) #[.int .i64 T2.step, .int .i64 T2.phase, .bool T2.fresh, .slice a2 T2.vals.length c2, .slice b2 T2.mail.length d2]) := X2.out.below hb X2.out.lt
  replace T : Hid (BX 39 w5 q2 #[.slice D3a ([fS p kb0, fS (1 - p) kb1, cut]).length D3c]) := T.out.below hb T.out.lt
  replace D3 : Hid (DiskR w5 (.slice D3a ([fS p kb0, fS (1 - p) kb1, cut]).length D3c) ([fS p kb0, fS (1 - p) kb1, cut])) := D3.out.below hb (Nat.le_refl _)
  have AV : Hid (w5.ownsRow w.heap.size 53 2 (.slice Aa (keptS T0).vals.length Ac) (keptS T0).vals.length ((keptS T0).vals.flatMap encM)) := own_lower ho1 hle
  have AM : Hid (w5.ownsRow w.heap.size 62 2 (.slice Ab (keptS T0).mail.length Ad) (keptS T0).mail.length ((keptS T0).mail.flatMap encM)) := own_lower ho2 hle
  clear ho1 ho2 hb hle
  clear z2005_0
  have L9 := LB.out.size
  have M9_X0 := X0.out.lt
  have M9_X1 := X1.out.lt
  have M9_X2 := X2.out.lt
  have M9_T := T.out.lt
  replace LB : Hid (Below w.heap.size w (w5.alloc (.cells #[.int .i64 (keptS T0).step, .int .i64 (keptS T0).phase, .bool (keptS T0).fresh, .slice Aa (keptS T0).vals.length Ac, .slice Ab (keptS T0).mail.length Ad] 28))) := LB.out.alloc LB.out.size _
  replace X0 : Hid (BX 24 (w5.alloc (.cells #[.int .i64 (keptS T0).step, .int .i64 (keptS T0).phase, .bool (keptS T0).fresh, .slice Aa (keptS T0).vals.length Ac, .slice Ab (keptS T0).mail.length Ad] 28)) w.heap.size #[.int .i64 T0.step, .int .i64 T0.phase, .bool T0.fresh, .slice a0 T0.vals.length c0, .slice b0 T0.mail.length d0]) := X0.out.below (below_alloc _ _) X0.out.lt
  replace X1 : Hid (BX 24 (w5.alloc (.cells #[.int .i64 (keptS T0).step, .int .i64 (keptS T0).phase, .bool (keptS T0).fresh, .slice Aa (keptS T0).vals.length Ac, .slice Ab (keptS T0).mail.length Ad] 28)) (w.heap.size + 1) #[.int .i64 T1.step, .int .i64 T1.phase, .bool T1.fresh, .slice a1 T1.vals.length c1, .slice b1 T1.mail.length d1]) := X1.out.below (below_alloc _ _) X1.out.lt
  replace X2 : Hid (BX 24 (w5.alloc (.cells #[.int .i64 (keptS T0).step, .int .i64 (keptS T0).phase, .bool (keptS T0).fresh, .slice Aa (keptS T0).vals.length Ac, .slice Ab (keptS T0).mail.length Ad] 28)) (w.heap.size + 2) #[.int .i64 T2.step, .int .i64 T2.phase, .bool T2.fresh, .slice a2 T2.vals.length c2, .slice b2 T2.mail.length d2]) := X2.out.below (below_alloc _ _) X2.out.lt
  replace T : Hid (BX 39 (w5.alloc (.cells #[.int .i64 (keptS T0).step, .int .i64 (keptS T0).phase, .bool (keptS T0).fresh, .slice Aa (keptS T0).vals.length Ac, .slice Ab (keptS T0).mail.length Ad] 28)) q2 #[.slice D3a ([fS p kb0, fS (1 - p) kb1, cut]).length D3c]) := T.out.below (below_alloc _ _) T.out.lt
  replace D3 : Hid (DiskR (w5.alloc (.cells #[.int .i64 (keptS T0).step, .int .i64 (keptS T0).phase, .bool (keptS T0).fresh, .slice Aa (keptS T0).vals.length Ac, .slice Ab (keptS T0).mail.length Ad] 28)) (.slice D3a ([fS p kb0, fS (1 - p) kb1, cut]).length D3c) ([fS p kb0, fS (1 - p) kb1, cut])) := D3.out.below (below_alloc _ _) (Nat.le_refl _)
  replace AV : Hid ((w5.alloc (.cells #[.int .i64 (keptS T0).step, .int .i64 (keptS T0).phase, .bool (keptS T0).fresh, .slice Aa (keptS T0).vals.length Ac, .slice Ab (keptS T0).mail.length Ad] 28)).ownsRow w.heap.size 53 2 (.slice Aa (keptS T0).vals.length Ac) (keptS T0).vals.length ((keptS T0).vals.flatMap encM)) := own_below AV.out (below_alloc _ _) (Nat.le_refl _)
  replace AM : Hid ((w5.alloc (.cells #[.int .i64 (keptS T0).step, .int .i64 (keptS T0).phase, .bool (keptS T0).fresh, .slice Aa (keptS T0).vals.length Ac, .slice Ab (keptS T0).mail.length Ad] 28)).ownsRow w.heap.size 62 2 (.slice Ab (keptS T0).mail.length Ad) (keptS T0).mail.length ((keptS T0).mail.flatMap encM)) := own_below AM.out (below_alloc _ _) (Nat.le_refl _)
  have A : Hid (BX 28 (w5.alloc (.cells #[.int .i64 (keptS T0).step, .int .i64 (keptS T0).phase, .bool (keptS T0).fresh, .slice Aa (keptS T0).vals.length Ac, .slice Ab (keptS T0).mail.length Ad] 28)) w5.heap.size #[.int .i64 (keptS T0).step, .int .i64 (keptS T0).phase, .bool (keptS T0).fresh, .slice Aa (keptS T0).vals.length Ac, .slice Ab (keptS T0).mail.length Ad]) := BX.new _ _ _
  have l_q3 : w.heap.size ≤ w5.heap.size := L9
  clear L9
  have n_X0_q3 : w.heap.size < w5.heap.size := M9_X0
  clear M9_X0
  have n_X1_q3 : (w.heap.size + 1) < w5.heap.size := M9_X1
  clear M9_X1
  have n_X2_q3 : (w.heap.size + 2) < w5.heap.size := M9_X2
  clear M9_X2
  have n_T_q3 : q2 < w5.heap.size := M9_T
  clear M9_T
  go_upto_region 6 with fail
  generalize w5.alloc (.cells #[.int .i64 (keptS T0).step, .int .i64 (keptS T0).phase, .bool (keptS T0).fresh, .slice Aa (keptS T0).vals.length Ac, .slice Ab (keptS T0).mail.length Ad] 28) = w5n at *
  generalize w5.heap.size = q3 at *
  have z2006_0 : w5n.cell? ⟨q2, 0, none⟩ = some (.slice D3a ([fS p kb0, fS (1 - p) kb1, cut]).length D3c) := T.out.cell 0
  go_wp2_with fail
  refine (CLB.out _ _ D3.out).mono ?_
  rintro e w6 ⟨v1, v2, rfl, ho1, ho2, hb⟩
  obtain ⟨Ba, Bc, rfl⟩ := (RowK.own encM_len ho1 : MlR w6 v1 (keptS T1).vals).shape
  obtain ⟨Bb, Bd, rfl⟩ := (RowK.own encM_len ho2 : MlR w6 v2 (keptS T1).mail).shape
  have hle := LB.out.size
  replace LB : Hid (Below w.heap.size w w6) := LB.out.trans (hb.mono LB.out.size)
  replace X0 : Hid (BX 24 w6 w.heap.size #[.int .i64 T0.step, .int .i64 T0.phase, .bool T0.fresh, .slice a0 T0.vals.length c0, .slice b0 T0.mail.length d0]) := X0.out.below hb X0.out.lt
  replace X1 : Hid (BX 24 w6 (w.heap.size + 1) #[.int .i64 T1.step, .int .i64 T1.phase, .bool T1.fresh, .slice a1 T1.vals.length c1, .slice b1 T1.mail.length d1]) := X1.out.below hb X1.out.lt
  replace X2 : Hid (BX 24 w6 (w.heap.size + 2) #[.int .i64 T2.step, .int .i64 T2.phase, .bool T2.fresh, .slice a2 T2.vals.length c2, .slice b2 T2.mail.length d2]) := X2.out.below hb X2.out.lt
  replace T : Hid (BX 39 w6 q2 #[.slice D3a ([fS p kb0, fS (1 - p) kb1, cut]).length D3c]) := T.out.below hb T.out.lt
  replace D3 : Hid (DiskR w6 (.slice D3a ([fS p kb0, fS (1 - p) kb1, cut]).length D3c) ([fS p kb0, fS (1 - p) kb1, cut])) := D3.out.below hb (Nat.le_refl _)
  replace AV : Hid (w6.ownsRow w.heap.size 53 2 (.slice Aa (keptS T0).vals.length Ac) (keptS T0).vals.length ((keptS T0).vals.flatMap encM)) := own_below AV.out hb (Nat.le_refl _)
  replace AM : Hid (w6.ownsRow w.heap.size 62 2 (.slice Ab (keptS T0).mail.length Ad) (keptS T0).mail.length ((keptS T0).mail.flatMap encM)) := own_below AM.out hb (Nat.le_refl _)
  replace A : Hid (BX 28 w6 q3 #[.int .i64 (keptS T0).step, .int .i64 (keptS T0).phase, .bool (keptS T0).fresh, .slice Aa (keptS T0).vals.length Ac, .slice Ab (keptS T0).mail.length Ad]) := A.out.below hb A.out.lt
  have BV : Hid (w6.ownsRow w.heap.size 53 2 (.slice Ba (keptS T1).vals.length Bc) (keptS T1).vals.length ((keptS T1).vals.flatMap encM)) := own_lower ho1 hle
  have BM : Hid (w6.ownsRow w.heap.size 62 2 (.slice Bb (keptS T1).mail.length Bd) (keptS T1).mail.length ((keptS T1).mail.flatMap encM)) := own_lower ho2 hle
  clear ho1 ho2 hb hle
  clear z2006_0
  have L9 := LB.out.size
  have M9_X0 := X0.out.lt
  have M9_X1 := X1.out.lt
  have M9_X2 := X2.out.lt
  have M9_T := T.out.lt
  have M9_A := A.out.lt
  replace LB : Hid (Below w.heap.size w (w6.alloc (.cells #[.int .i64 (keptS T1).step, .int .i64 (keptS T1).phase, .bool (keptS T1).fresh, .slice Ba (keptS T1).vals.length Bc, .slice Bb (keptS T1).mail.length Bd] 28))) := LB.out.alloc LB.out.size _
  replace X0 : Hid (BX 24 (w6.alloc (.cells #[.int .i64 (keptS T1).step, .int .i64 (keptS T1).phase, .bool (keptS T1).fresh, .slice Ba (keptS T1).vals.length Bc, .slice Bb (keptS T1).mail.length Bd] 28)) w.heap.size #[.int .i64 T0.step, .int .i64 T0.phase, .bool T0.fresh, .slice a0 T0.vals.length c0, .slice b0 T0.mail.length d0]) := X0.out.below (below_alloc _ _) X0.out.lt
  replace X1 : Hid (BX 24 (w6.alloc (.cells #[.int .i64 (keptS T1).step, .int .i64 (keptS T1).phase, .bool (keptS T1).fresh, .slice Ba (keptS T1).vals.length Bc, .slice Bb (keptS T1).mail.length Bd] 28)) (w.heap.size + 1) #[.int .i64 T1.step, .int .i64 T1.phase, .bool T1.fresh, .slice a1 T1.vals.length c1, .slice b1 T1.mail.length d1]) := X1.out.below (below_alloc _ _) X1.out.lt
  replace X2 : Hid (BX 24 (w6.alloc (.cells #[.int .i64 (keptS T1).step, .int .i64 (keptS T1).phase, .bool (keptS T1).fresh, .slice Ba (keptS T1).vals.length Bc, .slice Bb (keptS T1).mail.length Bd] 28)) (w.heap.size + 2) #[.int .i64 T2.step, .int .i64 T2.phase, .bool T2.fresh, .slice a2 T2.vals.length c2, .slice b2 T2.mail.length d2]) := X2.out.below (below_alloc _ _) X2.out.lt
  replace T : Hid (BX 39 (w6.alloc (.cells #[.int .i64 (keptS T1).step, .int .i64 (keptS T1).phase, .bool (keptS T1).fresh, .slice Ba (keptS T1).vals.length Bc, .slice Bb (keptS T1).mail.length Bd] 28)) q2 #[.slice D3a ([fS p kb0, fS (1 - p) kb1, cut]).length D3c]) := T.out.below (below_alloc _ _) T.out.lt
  replace D3 : Hid (DiskR (w6.alloc (.cells #[.int .i64 (keptS T1).step, .int .i64 (keptS T1).phase, .bool (keptS T1).fresh, .slice Ba (keptS T1).vals.length Bc, .slice Bb (keptS T1).mail.length Bd] 28)) (.slice D3a ([fS p kb0, fS (1 - p) kb1, cut]).length D3c) ([fS p kb0, fS (1 - p) kb1, cut])) := D3.out.below (below_alloc _ _) (Nat.le_refl _)
  replace AV : Hid ((w6.alloc (.cells #[.int .i64 (keptS T1).step, .int .i64 (keptS T1).phase, .bool (keptS T1).fresh, .slice Ba (keptS T1).vals.length Bc, .slice Bb (keptS T1).mail.length Bd] 28)).ownsRow w.heap.size 53 2 (.slice Aa (keptS T0).vals.length Ac) (keptS T0).vals.length ((keptS T0).vals.flatMap encM)) := own_below AV.out (below_alloc _ _) (Nat.le_refl _)
  replace AM : Hid ((w6.alloc (.cells #[.int .i64 (keptS T1).step, .int .i64 (keptS T1).phase, .bool (keptS T1).fresh, .slice Ba (keptS T1).vals.length Bc, .slice Bb (keptS T1).mail.length Bd] 28)).ownsRow w.heap.size 62 2 (.slice Ab (keptS T0).mail.length Ad) (keptS T0).mail.length ((keptS T0).mail.flatMap encM)) := own_below AM.out (below_alloc _ _) (Nat.le_refl _)
  replace A : Hid (BX 28 (w6.alloc (.cells #[.int .i64 (keptS T1).step, .int .i64 (keptS T1).phase, .bool (keptS T1).fresh, .slice Ba (keptS T1).vals.length Bc, .slice Bb (keptS T1).mail.length Bd] 28)) q3 #[.int .i64 (keptS T0).step, .int .i64 (keptS T0).phase, .bool (keptS T0).fresh, .slice Aa (keptS T0).vals.length Ac, .slice Ab (keptS T0).mail.length Ad]) := A.out.below (below_alloc _ _) A.out.lt
  replace BV : Hid ((w6.alloc (.cells #[.int .i64 (keptS T1).step, .int .i64 (keptS T1).phase, .bool (keptS T1).fresh, .slice Ba (keptS T1).vals.length Bc, .slice Bb (keptS T1).mail.length Bd] 28)).ownsRow w.heap.size 53 2 (.slice Ba (keptS T1).vals.length Bc) (keptS T1).vals.length ((keptS T1).vals.flatMap encM)) := own_below BV.out (below_alloc _ _) (Nat.le_refl _)
  replace BM : Hid ((w6.alloc (.cells #[.int .i64 (keptS T1).step, .int .i64 (keptS T1).phase, .bool (keptS T1).fresh, .slice Ba (keptS T1).vals.length Bc, .slice Bb (keptS T1).mail.length Bd] 28)).ownsRow w.heap.size 62 2 (.slice Bb (keptS T1).mail.length Bd) (keptS T1).mail.length ((keptS T1).mail.flatMap encM)) := own_below BM.out (below_alloc _ _) (Nat.le_refl _)
  have B : Hid (BX 28 (w6.alloc (.cells #[.int .i64 (keptS T1).step, .int .i64 (keptS T1).phase, .bool (keptS T1).fresh, .slice Ba (keptS T1).vals.length Bc, .slice Bb (keptS T1).mail.length Bd] 28)) w6.heap.size #[.int .i64 (keptS T1).step, .int .i64 (keptS T1).phase, .bool (keptS T1).fresh, .slice Ba (keptS T1).vals.length Bc, .slice Bb (keptS T1).mail.length Bd]) := BX.new _ _ _
  have l_q4 : w.heap.size ≤ w6.heap.size := L9
  clear L9
  have n_X0_q4 : w.heap.size < w6.heap.size := M9_X0
  clear M9_X0
  have n_X1_q4 : (w.heap.size + 1) < w6.heap.size := M9_X1
  clear M9_X1
  have n_X2_q4 : (w.heap.size + 2) < w6.heap.size := M9_X2
  clear M9_X2
  have n_T_q4 : q2 < w6.heap.size := M9_T
  clear M9_T
  have n_A_q4 : q3 < w6.heap.size := M9_A
  clear M9_A
  go_upto_region 7 with fail
  generalize w6.alloc (.cells #[.int .i64 (keptS T1).step, .int .i64 (keptS T1).phase, .bool (keptS T1).fresh, .slice Ba (keptS T1).vals.length Bc, .slice Bb (keptS T1).mail.length Bd] 28) = w6n at *
  generalize w6.heap.size = q4 at *
  have KS : Hid (∀ V, Below w6n.heap.size w6n V → BX 28 V q3 #[.int .i64 (keptS T0).step, .int .i64 (keptS T0).phase, .bool (keptS T0).fresh, .slice Aa (keptS T0).vals.length Ac, .slice Ab (keptS T0).mail.length Ad] ∧ BX 28 V q4 #[.int .i64 (keptS T1).step, .int .i64 (keptS T1).phase, .bool (keptS T1).fresh, .slice Ba (keptS T1).vals.length Bc, .slice Bb (keptS T1).mail.length Bd] ∧ BX 24 V w.heap.size #[.int .i64 T0.step, .int .i64 T0.phase, .bool T0.fresh, .slice a0 T0.vals.length c0, .slice b0 T0.mail.length d0] ∧ BX 24 V (w.heap.size + 1) #[.int .i64 T1.step, .int .i64 T1.phase, .bool T1.fresh, .slice a1 T1.vals.length c1, .slice b1 T1.mail.length d1]) := fun V h => ⟨A.out.below h A.out.lt, B.out.below h B.out.lt, X0.out.below h X0.out.lt, X1.out.below h X1.out.lt⟩
  have BD : Below w6n.heap.size w6n w6n.drew := (Below.refl _ _).drew
  replace LB : Hid (Below w.heap.size w w6n.drew) := LB.out.trans (BD.mono LB.out.size)
  replace X0 : Hid (BX 24 w6n.drew w.heap.size #[.int .i64 T0.step, .int .i64 T0.phase, .bool T0.fresh, .slice a0 T0.vals.length c0, .slice b0 T0.mail.length d0]) := X0.out.below BD X0.out.lt
  replace X1 : Hid (BX 24 w6n.drew (w.heap.size + 1) #[.int .i64 T1.step, .int .i64 T1.phase, .bool T1.fresh, .slice a1 T1.vals.length c1, .slice b1 T1.mail.length d1]) := X1.out.below BD X1.out.lt
  replace X2 : Hid (BX 24 w6n.drew (w.heap.size + 2) #[.int .i64 T2.step, .int .i64 T2.phase, .bool T2.fresh, .slice a2 T2.vals.length c2, .slice b2 T2.mail.length d2]) := X2.out.below BD X2.out.lt
  replace T : Hid (BX 39 w6n.drew q2 #[.slice D3a ([fS p kb0, fS (1 - p) kb1, cut]).length D3c]) := T.out.below BD T.out.lt
  replace D3 : Hid (DiskR w6n.drew (.slice D3a ([fS p kb0, fS (1 - p) kb1, cut]).length D3c) ([fS p kb0, fS (1 - p) kb1, cut])) := D3.out.below BD (Nat.le_refl _)
  replace AV : Hid (w6n.drew.ownsRow w.heap.size 53 2 (.slice Aa (keptS T0).vals.length Ac) (keptS T0).vals.length ((keptS T0).vals.flatMap encM)) := own_below AV.out BD (Nat.le_refl _)
  replace AM : Hid (w6n.drew.ownsRow w.heap.size 62 2 (.slice Ab (keptS T0).mail.length Ad) (keptS T0).mail.length ((keptS T0).mail.flatMap encM)) := own_below AM.out BD (Nat.le_refl _)
  replace A : Hid (BX 28 w6n.drew q3 #[.int .i64 (keptS T0).step, .int .i64 (keptS T0).phase, .bool (keptS T0).fresh, .slice Aa (keptS T0).vals.length Ac, .slice Ab (keptS T0).mail.length Ad]) := A.out.below BD A.out.lt
  replace BV : Hid (w6n.drew.ownsRow w.heap.size 53 2 (.slice Ba (keptS T1).vals.length Bc) (keptS T1).vals.length ((keptS T1).vals.flatMap encM)) := own_below BV.out BD (Nat.le_refl _)
  replace BM : Hid (w6n.drew.ownsRow w.heap.size 62 2 (.slice Bb (keptS T1).mail.length Bd) (keptS T1).mail.length ((keptS T1).mail.flatMap encM)) := own_below BM.out BD (Nat.le_refl _)
  replace B : Hid (BX 28 w6n.drew q4 #[.int .i64 (keptS T1).step, .int .i64 (keptS T1).phase, .bool (keptS T1).fresh, .slice Ba (keptS T1).vals.length Bc, .slice Bb (keptS T1).mail.length Bd]) := B.out.below BD B.out.lt
  refine wp_region_held (S := fun V => BX 28 V q3 #[.int .i64 (keptS T0).step, .int .i64 (keptS T0).phase, .bool (keptS T0).fresh, .slice Aa (keptS T0).vals.length Ac, .slice Ab (keptS T0).mail.length Ad] ∧ BX 28 V q4 #[.int .i64 (keptS T1).step, .int .i64 (keptS T1).phase, .bool (keptS T1).fresh, .slice Ba (keptS T1).vals.length Bc, .slice Bb (keptS T1).mail.length Bd] ∧ BX 24 V w.heap.size #[.int .i64 T0.step, .int .i64 T0.phase, .bool T0.fresh, .slice a0 T0.vals.length c0, .slice b0 T0.mail.length d0] ∧ BX 24 V (w.heap.size + 1) #[.int .i64 T1.step, .int .i64 T1.phase, .bool T1.fresh, .slice a1 T1.vals.length c1, .slice b1 T1.mail.length d1]) (by kernel_rfl) ?_
  simp only [List.size_toArray, List.length_cons, List.length_nil, Nat.reduceAdd]
  refine takeH (i := 0) (v := .bool true) (d := 62) rfl rfl (by kernel_rfl) (by kernel_rfl) (by kernel_rfl) (fun _ _ _ h => h) (by rfl) (fun V hV => by have _ := hV; go_simp) (KS.out _ BD) ?_
  simp only [Act.put, List.setIfInBounds_toArray, List.set_cons_zero, List.set_cons_succ]
  refine takeH (i := 1) (v := .bool false) (d := 63) rfl rfl (by kernel_rfl) (by kernel_rfl) (by kernel_rfl) (fun _ _ _ h => h) (by rfl) (fun V hV => by have _ := hV; go_simp) (KS.out _ BD) ?_
  simp only [Act.put, List.setIfInBounds_toArray, List.set_cons_zero, List.set_cons_succ]
  refine takeH (i := 2) (v := .bool false) (d := 64) rfl rfl (by kernel_rfl) (by kernel_rfl) (by kernel_rfl) (fun _ _ _ h => h) (by rfl) (fun V hV => by have _ := hV; go_simp) (KS.out _ BD) ?_
  simp only [Act.put, List.setIfInBounds_toArray, List.set_cons_zero, List.set_cons_succ]
  refine takeH (i := 3) (v := .int .i64 0) (d := 65) rfl rfl (by kernel_rfl) (by kernel_rfl) (by kernel_rfl) (fun _ _ _ h => h) (by rfl) (fun V hV => by have _ := hV; go_simp) (KS.out _ BD) ?_
  simp only [Act.put, List.setIfInBounds_toArray, List.set_cons_zero, List.set_cons_succ]
  refine takeH (i := 4) (v := .bool false) (d := 66) rfl rfl (by kernel_rfl) (by kernel_rfl) (by kernel_rfl) (fun _ _ _ h => h) (by rfl) (fun V hV => by have _ := hV; go_simp) (KS.out _ BD) ?_
  simp only [Act.put, List.setIfInBounds_toArray, List.set_cons_zero, List.set_cons_succ]
  refine takeH (i := 5) (v := .bool false) (d := 67) rfl rfl (by kernel_rfl) (by kernel_rfl) (by kernel_rfl) (fun _ _ _ h => h) (by rfl) (fun V hV => by have _ := hV; go_simp) (KS.out _ BD) ?_
  simp only [Act.put, List.setIfInBounds_toArray, List.set_cons_zero, List.set_cons_succ]
  refine takeH (i := 6) (v := .bool false) (d := 68) rfl rfl (by kernel_rfl) (by kernel_rfl) (by kernel_rfl) (fun _ _ _ h => h) (by rfl) (fun V hV => by have _ := hV; go_simp) (KS.out _ BD) ?_
  simp only [Act.put, List.setIfInBounds_toArray, List.set_cons_zero, List.set_cons_succ]
  refine takeH (i := 7) (v := .int .i64 0) (d := 69) rfl rfl (by kernel_rfl) (by kernel_rfl) (by kernel_rfl) (fun _ _ _ h => h) (by rfl) (fun V hV => by have _ := hV; go_simp) (KS.out _ BD) ?_
  simp only [Act.put, List.setIfInBounds_toArray, List.set_cons_zero, List.set_cons_succ]
  refine takeH (i := 8) (v := .bool false) (d := 70) rfl rfl (by kernel_rfl) (by kernel_rfl) (by kernel_rfl) (fun _ _ _ h => h) (by rfl) (fun V hV => by have _ := hV; go_simp) (KS.out _ BD) ?_
  simp only [Act.put, List.setIfInBounds_toArray, List.set_cons_zero, List.set_cons_succ]
  refine takeH (i := 9) (v := .bool false) (d := 71) rfl rfl (by kernel_rfl) (by kernel_rfl) (by kernel_rfl) (fun _ _ _ h => h) (by rfl) (fun V hV => by have _ := hV; go_simp) (KS.out _ BD) ?_
  simp only [Act.put, List.setIfInBounds_toArray, List.set_cons_zero, List.set_cons_succ]
  refine takeH (i := 10) (v := .bool false) (d := 72) rfl rfl (by kernel_rfl) (by kernel_rfl) (by kernel_rfl) (fun _ _ _ h => h) (by rfl) (fun V hV => by have _ := hV; go_simp) (KS.out _ BD) ?_
  simp only [Act.put, List.setIfInBounds_toArray, List.set_cons_zero, List.set_cons_succ]
  refine takeH (i := 11) (v := .int .i64 0) (d := 73) rfl rfl (by kernel_rfl) (by kernel_rfl) (by kernel_rfl) (fun _ _ _ h => h) (by rfl) (fun V hV => by have _ := hV; go_simp) (KS.out _ BD) ?_
  simp only [Act.put, List.setIfInBounds_toArray, List.set_cons_zero, List.set_cons_succ]
  refine takeH (i := 12) (v := .bool false) (d := 74) rfl rfl (by kernel_rfl) (by kernel_rfl) (by kernel_rfl) (fun _ _ _ h => h) (by rfl) (fun V hV => by have _ := hV; go_simp) (KS.out _ BD) ?_
  simp only [Act.put, List.setIfInBounds_toArray, List.set_cons_zero, List.set_cons_succ]
  refine takeH (i := 13) (v := .bool false) (d := 75) rfl rfl (by kernel_rfl) (by kernel_rfl) (by kernel_rfl) (fun _ _ _ h => h) (by rfl) (fun V hV => by have _ := hV; go_simp) (KS.out _ BD) ?_
  simp only [Act.put, List.setIfInBounds_toArray, List.set_cons_zero, List.set_cons_succ]
  refine takeH (i := 14) (v := .bool false) (d := 76) rfl rfl (by kernel_rfl) (by kernel_rfl) (by kernel_rfl) (fun _ _ _ h => h) (by rfl) (fun V hV => by have _ := hV; go_simp) (KS.out _ BD) ?_
  simp only [Act.put, List.setIfInBounds_toArray, List.set_cons_zero, List.set_cons_succ]
  refine takeH (i := 15) (v := .int .i64 0) (d := 77) rfl rfl (by kernel_rfl) (by kernel_rfl) (by kernel_rfl) (fun _ _ _ h => h) (by rfl) (fun V hV => by have _ := hV; go_simp) (KS.out _ BD) ?_
  simp only [Act.put, List.setIfInBounds_toArray, List.set_cons_zero, List.set_cons_succ]
  refine takeH (i := 16) (v := .bool false) (d := 78) rfl rfl (by kernel_rfl) (by kernel_rfl) (by kernel_rfl) (fun _ _ _ h => h) (by rfl) (fun V hV => by have _ := hV; go_simp) (KS.out _ BD) ?_
  simp only [Act.put, List.setIfInBounds_toArray, List.set_cons_zero, List.set_cons_succ]
  refine takeH (i := 17) (v := .bool false) (d := 79) rfl rfl (by kernel_rfl) (by kernel_rfl) (by kernel_rfl) (fun _ _ _ h => h) (by rfl) (fun V hV => by have _ := hV; go_simp) (KS.out _ BD) ?_
  simp only [Act.put, List.setIfInBounds_toArray, List.set_cons_zero, List.set_cons_succ]
  refine takeH (i := 18) (v := .bool false) (d := 80) rfl rfl (by kernel_rfl) (by kernel_rfl) (by kernel_rfl) (fun _ _ _ h => h) (by rfl) (fun V hV => by have _ := hV; go_simp) (KS.out _ BD) ?_
  simp only [Act.put, List.setIfInBounds_toArray, List.set_cons_zero, List.set_cons_succ]
  refine takeH (i := 19) (v := .agg #[.int .i64 (keptS T0).step, .int .i64 (keptS T0).phase, .bool (keptS T0).fresh, .slice Aa (keptS T0).vals.length Ac, .slice Ab (keptS T0).mail.length Ad]) (d := 81) rfl rfl (by kernel_rfl) (by kernel_rfl) (by kernel_rfl) (fun _ _ _ h => h) (by rfl) (fun V hV => by have u0 := (hV.1).cell 0; have u1 := (hV.1).cell 1; have u2 := (hV.1).cell 2; have u3 := (hV.1).cell 3; have u4 := (hV.1).cell 4; simp at u0 u1 u2 u3 u4; go_simp) (KS.out _ BD) ?_
  simp only [Act.put, List.setIfInBounds_toArray, List.set_cons_zero, List.set_cons_succ]
  refine takeH (i := 20) (v := .agg #[.int .i64 T0.step, .int .i64 T0.phase, .bool T0.fresh, .slice a0 T0.vals.length c0, .slice b0 T0.mail.length d0]) (d := 82) rfl rfl (by kernel_rfl) (by kernel_rfl) (by kernel_rfl) (fun _ _ _ h => h) (by rfl) (fun V hV => by have u0 := (hV.2.2.1).cell 0; have u1 := (hV.2.2.1).cell 1; have u2 := (hV.2.2.1).cell 2; have u3 := (hV.2.2.1).cell 3; have u4 := (hV.2.2.1).cell 4; simp at u0 u1 u2 u3 u4; go_simp) (KS.out _ BD) ?_
  simp only [Act.put, List.setIfInBounds_toArray, List.set_cons_zero, List.set_cons_succ]
  refine oneHW (i := 21) rfl (by kernel_rfl) (by rfl) (call_gets (R := fun v w' => ∃ v1 v2, v = .agg #[.int .i64 (keptS T0).step, .int .i64 (keptS T0).phase, .bool (keptS T0).fresh, v1, v2] ∧ w'.ownsRow w6n.drew.heap.size 53 2 v1 (keptS T0).vals.length ((keptS T0).vals.flatMap encM) ∧ w'.ownsRow w6n.drew.heap.size 62 2 v2 (keptS T0).mail.length ((keptS T0).mail.flatMap encM) ∧ Below w6n.drew.heap.size w6n.drew w') (d := 83) (f := 6) (xs := #[.tmp 82]) (ats := #[24]) rfl rfl eA (vs := #[.agg #[.int .i64 T0.step, .int .i64 T0.phase, .bool T0.fresh, .slice a0 T0.vals.length c0, .slice b0 T0.mail.length d0]]) (by simp [Act.eval]) ((CK0.out _ LB.out).mono fun e w' h => by obtain ⟨v1, v2, h1, h2, h3, h4⟩ := h; exact ⟨_, h1, v1, v2, rfl, h2, h3, h4⟩) ?_)
  rintro v wK7_0 ⟨v1, v2, rfl, ho1, ho2, hb⟩
  have wK7_0_b : Below w6n.heap.size w6n wK7_0 := (BD).trans (hb.mono (Below.size (BD)))
  obtain ⟨K0a, K0c, rfl⟩ := (RowK.own encM_len ho1 : MlR wK7_0 v1 (keptS T0).vals).shape
  obtain ⟨K0b, K0d, rfl⟩ := (RowK.own encM_len ho2 : MlR wK7_0 v2 (keptS T0).mail).shape
  have hle := LB.out.size
  replace LB : Hid (Below w.heap.size w wK7_0) := LB.out.trans (hb.mono LB.out.size)
  replace X0 : Hid (BX 24 wK7_0 w.heap.size #[.int .i64 T0.step, .int .i64 T0.phase, .bool T0.fresh, .slice a0 T0.vals.length c0, .slice b0 T0.mail.length d0]) := X0.out.below hb X0.out.lt
  replace X1 : Hid (BX 24 wK7_0 (w.heap.size + 1) #[.int .i64 T1.step, .int .i64 T1.phase, .bool T1.fresh, .slice a1 T1.vals.length c1, .slice b1 T1.mail.length d1]) := X1.out.below hb X1.out.lt
  replace X2 : Hid (BX 24 wK7_0 (w.heap.size + 2) #[.int .i64 T2.step, .int .i64 T2.phase, .bool T2.fresh, .slice a2 T2.vals.length c2, .slice b2 T2.mail.length d2]) := X2.out.below hb X2.out.lt
  replace T : Hid (BX 39 wK7_0 q2 #[.slice D3a ([fS p kb0, fS (1 - p) kb1, cut]).length D3c]) := T.out.below hb T.out.lt
  replace D3 : Hid (DiskR wK7_0 (.slice D3a ([fS p kb0, fS (1 - p) kb1, cut]).length D3c) ([fS p kb0, fS (1 - p) kb1, cut])) := D3.out.below hb (Nat.le_refl _)
  replace AV : Hid (wK7_0.ownsRow w.heap.size 53 2 (.slice Aa (keptS T0).vals.length Ac) (keptS T0).vals.length ((keptS T0).vals.flatMap encM)) := own_below AV.out hb (Nat.le_refl _)
  replace AM : Hid (wK7_0.ownsRow w.heap.size 62 2 (.slice Ab (keptS T0).mail.length Ad) (keptS T0).mail.length ((keptS T0).mail.flatMap encM)) := own_below AM.out hb (Nat.le_refl _)
  replace A : Hid (BX 28 wK7_0 q3 #[.int .i64 (keptS T0).step, .int .i64 (keptS T0).phase, .bool (keptS T0).fresh, .slice Aa (keptS T0).vals.length Ac, .slice Ab (keptS T0).mail.length Ad]) := A.out.below hb A.out.lt
  replace BV : Hid (wK7_0.ownsRow w.heap.size 53 2 (.slice Ba (keptS T1).vals.length Bc) (keptS T1).vals.length ((keptS T1).vals.flatMap encM)) := own_below BV.out hb (Nat.le_refl _)
  replace BM : Hid (wK7_0.ownsRow w.heap.size 62 2 (.slice Bb (keptS T1).mail.length Bd) (keptS T1).mail.length ((keptS T1).mail.flatMap encM)) := own_below BM.out hb (Nat.le_refl _)
  replace B : Hid (BX 28 wK7_0 q4 #[.int .i64 (keptS T1).step, .int .i64 (keptS T1).phase, .bool (keptS T1).fresh, .slice Ba (keptS T1).vals.length Bc, .slice Bb (keptS T1).mail.length Bd]) := B.out.below hb B.out.lt
  have K0V : Hid (wK7_0.ownsRow w.heap.size 53 2 (.slice K0a (keptS T0).vals.length K0c) (keptS T0).vals.length ((keptS T0).vals.flatMap encM)) := own_lower ho1 hle
  have K0M : Hid (wK7_0.ownsRow w.heap.size 62 2 (.slice K0b (keptS T0).mail.length K0d) (keptS T0).mail.length ((keptS T0).mail.flatMap encM)) := own_lower ho2 hle
  clear ho1 ho2 hb hle
  refine ⟨KS.out _ wK7_0_b, ?_⟩
  simp only [Act.put, List.setIfInBounds_toArray, List.set_cons_zero, List.set_cons_succ]
  refine oneHW (i := 22) rfl (by kernel_rfl) (by rfl) (call_gets (R := fun v w' => v = .bool true ∧ Below wK7_0.heap.size wK7_0 w') (d := 84) (f := 14) (xs := #[.tmp 81, .tmp 83]) (ats := #[28, 28]) rfl rfl eS (vs := #[.agg #[.int .i64 (keptS T0).step, .int .i64 (keptS T0).phase, .bool (keptS T0).fresh, .slice Aa (keptS T0).vals.length Ac, .slice Ab (keptS T0).mail.length Ad], .agg #[.int .i64 (keptS T0).step, .int .i64 (keptS T0).phase, .bool (keptS T0).fresh, .slice K0a (keptS T0).vals.length K0c, .slice K0b (keptS T0).mail.length K0d]]) (by simp [Act.eval]) ((CT.out _ (keptS T0) (keptS T0) _ _ _ _ (RowK.own encM_len AV.out) (RowK.own encM_len AM.out) (RowK.own encM_len K0V.out) (RowK.own encM_len K0M.out)).mono fun e w' h => by obtain ⟨r, h1, h2, h3⟩ := h; obtain rfl : r = true := h2 rfl; exact ⟨_, h1, rfl, h3⟩) ?_)
  rintro v wS7_0 ⟨rfl, hb⟩
  have wS7_0_b : Below w6n.heap.size w6n wS7_0 := (wK7_0_b).trans (hb.mono (Below.size (wK7_0_b)))
  replace LB : Hid (Below w.heap.size w wS7_0) := LB.out.trans (hb.mono LB.out.size)
  replace X0 : Hid (BX 24 wS7_0 w.heap.size #[.int .i64 T0.step, .int .i64 T0.phase, .bool T0.fresh, .slice a0 T0.vals.length c0, .slice b0 T0.mail.length d0]) := X0.out.below hb X0.out.lt
  replace X1 : Hid (BX 24 wS7_0 (w.heap.size + 1) #[.int .i64 T1.step, .int .i64 T1.phase, .bool T1.fresh, .slice a1 T1.vals.length c1, .slice b1 T1.mail.length d1]) := X1.out.below hb X1.out.lt
  replace X2 : Hid (BX 24 wS7_0 (w.heap.size + 2) #[.int .i64 T2.step, .int .i64 T2.phase, .bool T2.fresh, .slice a2 T2.vals.length c2, .slice b2 T2.mail.length d2]) := X2.out.below hb X2.out.lt
  replace T : Hid (BX 39 wS7_0 q2 #[.slice D3a ([fS p kb0, fS (1 - p) kb1, cut]).length D3c]) := T.out.below hb T.out.lt
  replace D3 : Hid (DiskR wS7_0 (.slice D3a ([fS p kb0, fS (1 - p) kb1, cut]).length D3c) ([fS p kb0, fS (1 - p) kb1, cut])) := D3.out.below hb (Nat.le_refl _)
  replace AV : Hid (wS7_0.ownsRow w.heap.size 53 2 (.slice Aa (keptS T0).vals.length Ac) (keptS T0).vals.length ((keptS T0).vals.flatMap encM)) := own_below AV.out hb (Nat.le_refl _)
  replace AM : Hid (wS7_0.ownsRow w.heap.size 62 2 (.slice Ab (keptS T0).mail.length Ad) (keptS T0).mail.length ((keptS T0).mail.flatMap encM)) := own_below AM.out hb (Nat.le_refl _)
  replace A : Hid (BX 28 wS7_0 q3 #[.int .i64 (keptS T0).step, .int .i64 (keptS T0).phase, .bool (keptS T0).fresh, .slice Aa (keptS T0).vals.length Ac, .slice Ab (keptS T0).mail.length Ad]) := A.out.below hb A.out.lt
  replace BV : Hid (wS7_0.ownsRow w.heap.size 53 2 (.slice Ba (keptS T1).vals.length Bc) (keptS T1).vals.length ((keptS T1).vals.flatMap encM)) := own_below BV.out hb (Nat.le_refl _)
  replace BM : Hid (wS7_0.ownsRow w.heap.size 62 2 (.slice Bb (keptS T1).mail.length Bd) (keptS T1).mail.length ((keptS T1).mail.flatMap encM)) := own_below BM.out hb (Nat.le_refl _)
  replace B : Hid (BX 28 wS7_0 q4 #[.int .i64 (keptS T1).step, .int .i64 (keptS T1).phase, .bool (keptS T1).fresh, .slice Ba (keptS T1).vals.length Bc, .slice Bb (keptS T1).mail.length Bd]) := B.out.below hb B.out.lt
  replace K0V : Hid (wS7_0.ownsRow w.heap.size 53 2 (.slice K0a (keptS T0).vals.length K0c) (keptS T0).vals.length ((keptS T0).vals.flatMap encM)) := own_below K0V.out hb (Nat.le_refl _)
  replace K0M : Hid (wS7_0.ownsRow w.heap.size 62 2 (.slice K0b (keptS T0).mail.length K0d) (keptS T0).mail.length ((keptS T0).mail.flatMap encM)) := own_below K0M.out hb (Nat.le_refl _)
  clear hb
  clear K0V
  clear K0M
  refine ⟨KS.out _ wS7_0_b, ?_⟩
  simp only [Act.put, List.setIfInBounds_toArray, List.set_cons_zero, List.set_cons_succ]
  refine takeH (i := 23) (v := .bool false) (d := 85) rfl rfl (by kernel_rfl) (by kernel_rfl) (by kernel_rfl) (fun _ _ _ h => h) (by rfl) (fun V hV => by have _ := hV; go_simp) (KS.out _ wS7_0_b) ?_
  simp only [Act.put, List.setIfInBounds_toArray, List.set_cons_zero, List.set_cons_succ]
  refine takeH (i := 24) (v := .bool false) (d := 86) rfl rfl (by kernel_rfl) (by kernel_rfl) (by kernel_rfl) (fun _ _ _ h => h) (by rfl) (fun V hV => by have _ := hV; go_simp) (KS.out _ wS7_0_b) ?_
  simp only [Act.put, List.setIfInBounds_toArray, List.set_cons_zero, List.set_cons_succ]
  refine takeH (i := 25) (v := .bool false) (d := 87) rfl rfl (by kernel_rfl) (by kernel_rfl) (by kernel_rfl) (fun _ _ _ h => h) (by rfl) (fun V hV => by have _ := hV; go_simp) (KS.out _ wS7_0_b) ?_
  simp only [Act.put, List.setIfInBounds_toArray, List.set_cons_zero, List.set_cons_succ]
  refine takeH (i := 26) (v := .agg #[.int .i64 (keptS T1).step, .int .i64 (keptS T1).phase, .bool (keptS T1).fresh, .slice Ba (keptS T1).vals.length Bc, .slice Bb (keptS T1).mail.length Bd]) (d := 88) rfl rfl (by kernel_rfl) (by kernel_rfl) (by kernel_rfl) (fun _ _ _ h => h) (by rfl) (fun V hV => by have u0 := (hV.2.1).cell 0; have u1 := (hV.2.1).cell 1; have u2 := (hV.2.1).cell 2; have u3 := (hV.2.1).cell 3; have u4 := (hV.2.1).cell 4; simp at u0 u1 u2 u3 u4; go_simp) (KS.out _ wS7_0_b) ?_
  simp only [Act.put, List.setIfInBounds_toArray, List.set_cons_zero, List.set_cons_succ]
  refine takeH (i := 27) (v := .agg #[.int .i64 T1.step, .int .i64 T1.phase, .bool T1.fresh, .slice a1 T1.vals.length c1, .slice b1 T1.mail.length d1]) (d := 89) rfl rfl (by kernel_rfl) (by kernel_rfl) (by kernel_rfl) (fun _ _ _ h => h) (by rfl) (fun V hV => by have u0 := (hV.2.2.2).cell 0; have u1 := (hV.2.2.2).cell 1; have u2 := (hV.2.2.2).cell 2; have u3 := (hV.2.2.2).cell 3; have u4 := (hV.2.2.2).cell 4; simp at u0 u1 u2 u3 u4; go_simp) (KS.out _ wS7_0_b) ?_
  simp only [Act.put, List.setIfInBounds_toArray, List.set_cons_zero, List.set_cons_succ]
  refine oneHW (i := 28) rfl (by kernel_rfl) (by rfl) (call_gets (R := fun v w' => ∃ v1 v2, v = .agg #[.int .i64 (keptS T1).step, .int .i64 (keptS T1).phase, .bool (keptS T1).fresh, v1, v2] ∧ w'.ownsRow wS7_0.heap.size 53 2 v1 (keptS T1).vals.length ((keptS T1).vals.flatMap encM) ∧ w'.ownsRow wS7_0.heap.size 62 2 v2 (keptS T1).mail.length ((keptS T1).mail.flatMap encM) ∧ Below wS7_0.heap.size wS7_0 w') (d := 90) (f := 6) (xs := #[.tmp 89]) (ats := #[24]) rfl rfl eA (vs := #[.agg #[.int .i64 T1.step, .int .i64 T1.phase, .bool T1.fresh, .slice a1 T1.vals.length c1, .slice b1 T1.mail.length d1]]) (by simp [Act.eval]) ((CK1.out _ LB.out).mono fun e w' h => by obtain ⟨v1, v2, h1, h2, h3, h4⟩ := h; exact ⟨_, h1, v1, v2, rfl, h2, h3, h4⟩) ?_)
  rintro v wK7_1 ⟨v1, v2, rfl, ho1, ho2, hb⟩
  have wK7_1_b : Below w6n.heap.size w6n wK7_1 := (wS7_0_b).trans (hb.mono (Below.size (wS7_0_b)))
  obtain ⟨K1a, K1c, rfl⟩ := (RowK.own encM_len ho1 : MlR wK7_1 v1 (keptS T1).vals).shape
  obtain ⟨K1b, K1d, rfl⟩ := (RowK.own encM_len ho2 : MlR wK7_1 v2 (keptS T1).mail).shape
  have hle := LB.out.size
  replace LB : Hid (Below w.heap.size w wK7_1) := LB.out.trans (hb.mono LB.out.size)
  replace X0 : Hid (BX 24 wK7_1 w.heap.size #[.int .i64 T0.step, .int .i64 T0.phase, .bool T0.fresh, .slice a0 T0.vals.length c0, .slice b0 T0.mail.length d0]) := X0.out.below hb X0.out.lt
  replace X1 : Hid (BX 24 wK7_1 (w.heap.size + 1) #[.int .i64 T1.step, .int .i64 T1.phase, .bool T1.fresh, .slice a1 T1.vals.length c1, .slice b1 T1.mail.length d1]) := X1.out.below hb X1.out.lt
  replace X2 : Hid (BX 24 wK7_1 (w.heap.size + 2) #[.int .i64 T2.step, .int .i64 T2.phase, .bool T2.fresh, .slice a2 T2.vals.length c2, .slice b2 T2.mail.length d2]) := X2.out.below hb X2.out.lt
  replace T : Hid (BX 39 wK7_1 q2 #[.slice D3a ([fS p kb0, fS (1 - p) kb1, cut]).length D3c]) := T.out.below hb T.out.lt
  replace D3 : Hid (DiskR wK7_1 (.slice D3a ([fS p kb0, fS (1 - p) kb1, cut]).length D3c) ([fS p kb0, fS (1 - p) kb1, cut])) := D3.out.below hb (Nat.le_refl _)
  replace AV : Hid (wK7_1.ownsRow w.heap.size 53 2 (.slice Aa (keptS T0).vals.length Ac) (keptS T0).vals.length ((keptS T0).vals.flatMap encM)) := own_below AV.out hb (Nat.le_refl _)
  replace AM : Hid (wK7_1.ownsRow w.heap.size 62 2 (.slice Ab (keptS T0).mail.length Ad) (keptS T0).mail.length ((keptS T0).mail.flatMap encM)) := own_below AM.out hb (Nat.le_refl _)
  replace A : Hid (BX 28 wK7_1 q3 #[.int .i64 (keptS T0).step, .int .i64 (keptS T0).phase, .bool (keptS T0).fresh, .slice Aa (keptS T0).vals.length Ac, .slice Ab (keptS T0).mail.length Ad]) := A.out.below hb A.out.lt
  replace BV : Hid (wK7_1.ownsRow w.heap.size 53 2 (.slice Ba (keptS T1).vals.length Bc) (keptS T1).vals.length ((keptS T1).vals.flatMap encM)) := own_below BV.out hb (Nat.le_refl _)
  replace BM : Hid (wK7_1.ownsRow w.heap.size 62 2 (.slice Bb (keptS T1).mail.length Bd) (keptS T1).mail.length ((keptS T1).mail.flatMap encM)) := own_below BM.out hb (Nat.le_refl _)
  replace B : Hid (BX 28 wK7_1 q4 #[.int .i64 (keptS T1).step, .int .i64 (keptS T1).phase, .bool (keptS T1).fresh, .slice Ba (keptS T1).vals.length Bc, .slice Bb (keptS T1).mail.length Bd]) := B.out.below hb B.out.lt
  have K1V : Hid (wK7_1.ownsRow w.heap.size 53 2 (.slice K1a (keptS T1).vals.length K1c) (keptS T1).vals.length ((keptS T1).vals.flatMap encM)) := own_lower ho1 hle
  have K1M : Hid (wK7_1.ownsRow w.heap.size 62 2 (.slice K1b (keptS T1).mail.length K1d) (keptS T1).mail.length ((keptS T1).mail.flatMap encM)) := own_lower ho2 hle
  clear ho1 ho2 hb hle
  refine ⟨KS.out _ wK7_1_b, ?_⟩
  simp only [Act.put, List.setIfInBounds_toArray, List.set_cons_zero, List.set_cons_succ]
  refine oneHW (i := 29) rfl (by kernel_rfl) (by rfl) (call_gets (R := fun v w' => v = .bool true ∧ Below wK7_1.heap.size wK7_1 w') (d := 91) (f := 14) (xs := #[.tmp 88, .tmp 90]) (ats := #[28, 28]) rfl rfl eS (vs := #[.agg #[.int .i64 (keptS T1).step, .int .i64 (keptS T1).phase, .bool (keptS T1).fresh, .slice Ba (keptS T1).vals.length Bc, .slice Bb (keptS T1).mail.length Bd], .agg #[.int .i64 (keptS T1).step, .int .i64 (keptS T1).phase, .bool (keptS T1).fresh, .slice K1a (keptS T1).vals.length K1c, .slice K1b (keptS T1).mail.length K1d]]) (by simp [Act.eval]) ((CT.out _ (keptS T1) (keptS T1) _ _ _ _ (RowK.own encM_len BV.out) (RowK.own encM_len BM.out) (RowK.own encM_len K1V.out) (RowK.own encM_len K1M.out)).mono fun e w' h => by obtain ⟨r, h1, h2, h3⟩ := h; obtain rfl : r = true := h2 rfl; exact ⟨_, h1, rfl, h3⟩) ?_)
  rintro v wS7_1 ⟨rfl, hb⟩
  have wS7_1_b : Below w6n.heap.size w6n wS7_1 := (wK7_1_b).trans (hb.mono (Below.size (wK7_1_b)))
  replace LB : Hid (Below w.heap.size w wS7_1) := LB.out.trans (hb.mono LB.out.size)
  replace X0 : Hid (BX 24 wS7_1 w.heap.size #[.int .i64 T0.step, .int .i64 T0.phase, .bool T0.fresh, .slice a0 T0.vals.length c0, .slice b0 T0.mail.length d0]) := X0.out.below hb X0.out.lt
  replace X1 : Hid (BX 24 wS7_1 (w.heap.size + 1) #[.int .i64 T1.step, .int .i64 T1.phase, .bool T1.fresh, .slice a1 T1.vals.length c1, .slice b1 T1.mail.length d1]) := X1.out.below hb X1.out.lt
  replace X2 : Hid (BX 24 wS7_1 (w.heap.size + 2) #[.int .i64 T2.step, .int .i64 T2.phase, .bool T2.fresh, .slice a2 T2.vals.length c2, .slice b2 T2.mail.length d2]) := X2.out.below hb X2.out.lt
  replace T : Hid (BX 39 wS7_1 q2 #[.slice D3a ([fS p kb0, fS (1 - p) kb1, cut]).length D3c]) := T.out.below hb T.out.lt
  replace D3 : Hid (DiskR wS7_1 (.slice D3a ([fS p kb0, fS (1 - p) kb1, cut]).length D3c) ([fS p kb0, fS (1 - p) kb1, cut])) := D3.out.below hb (Nat.le_refl _)
  replace AV : Hid (wS7_1.ownsRow w.heap.size 53 2 (.slice Aa (keptS T0).vals.length Ac) (keptS T0).vals.length ((keptS T0).vals.flatMap encM)) := own_below AV.out hb (Nat.le_refl _)
  replace AM : Hid (wS7_1.ownsRow w.heap.size 62 2 (.slice Ab (keptS T0).mail.length Ad) (keptS T0).mail.length ((keptS T0).mail.flatMap encM)) := own_below AM.out hb (Nat.le_refl _)
  replace A : Hid (BX 28 wS7_1 q3 #[.int .i64 (keptS T0).step, .int .i64 (keptS T0).phase, .bool (keptS T0).fresh, .slice Aa (keptS T0).vals.length Ac, .slice Ab (keptS T0).mail.length Ad]) := A.out.below hb A.out.lt
  replace BV : Hid (wS7_1.ownsRow w.heap.size 53 2 (.slice Ba (keptS T1).vals.length Bc) (keptS T1).vals.length ((keptS T1).vals.flatMap encM)) := own_below BV.out hb (Nat.le_refl _)
  replace BM : Hid (wS7_1.ownsRow w.heap.size 62 2 (.slice Bb (keptS T1).mail.length Bd) (keptS T1).mail.length ((keptS T1).mail.flatMap encM)) := own_below BM.out hb (Nat.le_refl _)
  replace B : Hid (BX 28 wS7_1 q4 #[.int .i64 (keptS T1).step, .int .i64 (keptS T1).phase, .bool (keptS T1).fresh, .slice Ba (keptS T1).vals.length Bc, .slice Bb (keptS T1).mail.length Bd]) := B.out.below hb B.out.lt
  replace K1V : Hid (wS7_1.ownsRow w.heap.size 53 2 (.slice K1a (keptS T1).vals.length K1c) (keptS T1).vals.length ((keptS T1).vals.flatMap encM)) := own_below K1V.out hb (Nat.le_refl _)
  replace K1M : Hid (wS7_1.ownsRow w.heap.size 62 2 (.slice K1b (keptS T1).mail.length K1d) (keptS T1).mail.length ((keptS T1).mail.flatMap encM)) := own_below K1M.out hb (Nat.le_refl _)
  clear hb
  clear K1V
  clear K1M
  refine ⟨KS.out _ wS7_1_b, ?_⟩
  simp only [Act.put, List.setIfInBounds_toArray, List.set_cons_zero, List.set_cons_succ]
  refine takeH (i := 30) (v := .bool false) (d := 92) rfl rfl (by kernel_rfl) (by kernel_rfl) (by kernel_rfl) (fun _ _ _ h => h) (by rfl) (fun V hV => by have _ := hV; go_simp) (KS.out _ wS7_1_b) ?_
  simp only [Act.put, List.setIfInBounds_toArray, List.set_cons_zero, List.set_cons_succ]
  refine takeH (i := 31) (v := .bool false) (d := 93) rfl rfl (by kernel_rfl) (by kernel_rfl) (by kernel_rfl) (fun _ _ _ h => h) (by rfl) (fun V hV => by have _ := hV; go_simp) (KS.out _ wS7_1_b) ?_
  simp only [Act.put, List.setIfInBounds_toArray, List.set_cons_zero, List.set_cons_succ]
  refine wpAnyH_done (by kernel_rfl) ?_ _
  clear KS BD
  go_upto_region 9 with fail
  clear AV
  clear AM
  clear A
  have z2007_0 : wS7_1.cell? ⟨q2, 0, none⟩ = some (.slice D3a ([fS p kb0, fS (1 - p) kb1, cut]).length D3c) := T.out.cell 0
  have z2008_0 : wS7_1.cell? ⟨(w.heap.size + 2), 0, none⟩ = some (.int .i64 T2.step) := X2.out.cell 0
  have z2008_1 : wS7_1.cell? ⟨(w.heap.size + 2), 1, none⟩ = some (.int .i64 T2.phase) := X2.out.cell 1
  have z2008_2 : wS7_1.cell? ⟨(w.heap.size + 2), 2, none⟩ = some (.bool T2.fresh) := X2.out.cell 2
  have z2008_3 : wS7_1.cell? ⟨(w.heap.size + 2), 3, none⟩ = some (.slice a2 T2.vals.length c2) := X2.out.cell 3
  have z2008_4 : wS7_1.cell? ⟨(w.heap.size + 2), 4, none⟩ = some (.slice b2 T2.mail.length d2) := X2.out.cell 4
  have BD : Below wS7_1.heap.size wS7_1 wS7_1.drew := (Below.refl _ _).drew
  have KS : Hid (∀ V, Below wS7_1.heap.size wS7_1 V → V.cell? ⟨q2, 0, none⟩ = some (.slice D3a ([fS p kb0, fS (1 - p) kb1, cut]).length D3c) ∧ BX 24 V (w.heap.size + 2) #[.int .i64 T2.step, .int .i64 T2.phase, .bool T2.fresh, .slice a2 T2.vals.length c2, .slice b2 T2.mail.length d2]) := fun V h => ⟨(T.out.below h T.out.lt).cell 0, X2.out.below h X2.out.lt⟩
  replace LB : Hid (Below w.heap.size w wS7_1.drew) := LB.out.trans (BD.mono LB.out.size)
  replace X0 : Hid (BX 24 wS7_1.drew w.heap.size #[.int .i64 T0.step, .int .i64 T0.phase, .bool T0.fresh, .slice a0 T0.vals.length c0, .slice b0 T0.mail.length d0]) := X0.out.below BD X0.out.lt
  replace X1 : Hid (BX 24 wS7_1.drew (w.heap.size + 1) #[.int .i64 T1.step, .int .i64 T1.phase, .bool T1.fresh, .slice a1 T1.vals.length c1, .slice b1 T1.mail.length d1]) := X1.out.below BD X1.out.lt
  replace X2 : Hid (BX 24 wS7_1.drew (w.heap.size + 2) #[.int .i64 T2.step, .int .i64 T2.phase, .bool T2.fresh, .slice a2 T2.vals.length c2, .slice b2 T2.mail.length d2]) := X2.out.below BD X2.out.lt
  replace T : Hid (BX 39 wS7_1.drew q2 #[.slice D3a ([fS p kb0, fS (1 - p) kb1, cut]).length D3c]) := T.out.below BD T.out.lt
  replace D3 : Hid (DiskR wS7_1.drew (.slice D3a ([fS p kb0, fS (1 - p) kb1, cut]).length D3c) ([fS p kb0, fS (1 - p) kb1, cut])) := D3.out.below BD (Nat.le_refl _)
  replace BV : Hid (wS7_1.drew.ownsRow w.heap.size 53 2 (.slice Ba (keptS T1).vals.length Bc) (keptS T1).vals.length ((keptS T1).vals.flatMap encM)) := own_below BV.out BD (Nat.le_refl _)
  replace BM : Hid (wS7_1.drew.ownsRow w.heap.size 62 2 (.slice Bb (keptS T1).mail.length Bd) (keptS T1).mail.length ((keptS T1).mail.flatMap encM)) := own_below BM.out BD (Nat.le_refl _)
  replace B : Hid (BX 28 wS7_1.drew q4 #[.int .i64 (keptS T1).step, .int .i64 (keptS T1).phase, .bool (keptS T1).fresh, .slice Ba (keptS T1).vals.length Bc, .slice Bb (keptS T1).mail.length Bd]) := B.out.below BD B.out.lt
  refine wp_region_late (fun V => V.cell? ⟨q2, 0, none⟩ = some (.slice D3a ([fS p kb0, fS (1 - p) kb1, cut]).length D3c) ∧ BX 24 V (w.heap.size + 2) #[.int .i64 T2.step, .int .i64 T2.phase, .bool T2.fresh, .slice a2 T2.vals.length c2, .slice b2 T2.mail.length d2]) (fun j => j == 7) (by kernel_rfl) ?_
  simp only [List.size_toArray, List.length_cons, List.length_nil, Nat.reduceAdd]
  refine takeL (i := 0) (v := .agg #[.slice D3a ([fS p kb0, fS (1 - p) kb1, cut]).length D3c]) (d := 95) rfl rfl (by kernel_rfl) (by kernel_rfl) (by kernel_rfl) (by kernel_rfl) (fun _ _ _ h => h) (by rfl) (fun V hV => by obtain ⟨v1, v2⟩ := hV; have u0 := v2.cell 0; have u1 := v2.cell 1; have u2 := v2.cell 2; have u3 := v2.cell 3; have u4 := v2.cell 4; simp at u0 u1 u2 u3 u4; go_simp) (KS.out _ BD) ?_
  simp only [Act.put, List.setIfInBounds_toArray, List.set_cons_zero, List.set_cons_succ]
  refine takeL (i := 1) (v := .agg #[.int .i64 T2.step, .int .i64 T2.phase, .bool T2.fresh, .slice a2 T2.vals.length c2, .slice b2 T2.mail.length d2]) (d := 96) rfl rfl (by kernel_rfl) (by kernel_rfl) (by kernel_rfl) (by kernel_rfl) (fun _ _ _ h => h) (by rfl) (fun V hV => by obtain ⟨v1, v2⟩ := hV; have u0 := v2.cell 0; have u1 := v2.cell 1; have u2 := v2.cell 2; have u3 := v2.cell 3; have u4 := v2.cell 4; simp at u0 u1 u2 u3 u4; go_simp) (KS.out _ BD) ?_
  simp only [Act.put, List.setIfInBounds_toArray, List.set_cons_zero, List.set_cons_succ]
  refine oneL (i := 2) rfl (by kernel_rfl) rfl (call_gets (R := fun v w' => ∃ v1 v2, v = .agg #[.int .i64 (keptS T2).step, .int .i64 (keptS T2).phase, .bool (keptS T2).fresh, v1, v2] ∧ w'.ownsRow wS7_1.drew.heap.size 53 2 v1 (keptS T2).vals.length ((keptS T2).vals.flatMap encM) ∧ w'.ownsRow wS7_1.drew.heap.size 62 2 v2 (keptS T2).mail.length ((keptS T2).mail.flatMap encM) ∧ Below wS7_1.drew.heap.size wS7_1.drew w') (d := 97) (f := 6) (xs := #[.tmp 96]) (ats := #[24]) rfl rfl eA (vs := #[.agg #[.int .i64 T2.step, .int .i64 T2.phase, .bool T2.fresh, .slice a2 T2.vals.length c2, .slice b2 T2.mail.length d2]]) (by simp [Act.eval]) ((CK2.out _ LB.out).mono fun e w' h => by obtain ⟨v1, v2, h1, h2, h3, h4⟩ := h; exact ⟨_, h1, v1, v2, rfl, h2, h3, h4⟩) ?_)
  rintro v wA9 ⟨v1, v2, rfl, ho1, ho2, hb⟩
  have wA9_b : Below wS7_1.heap.size wS7_1 wA9 := (BD).trans (hb.mono (Below.size (BD)))
  obtain ⟨Ra, Rc, rfl⟩ := (RowK.own encM_len ho1 : MlR wA9 v1 (keptS T2).vals).shape
  obtain ⟨Rb, Rd, rfl⟩ := (RowK.own encM_len ho2 : MlR wA9 v2 (keptS T2).mail).shape
  have hle := LB.out.size
  replace LB : Hid (Below w.heap.size w wA9) := LB.out.trans (hb.mono LB.out.size)
  replace X0 : Hid (BX 24 wA9 w.heap.size #[.int .i64 T0.step, .int .i64 T0.phase, .bool T0.fresh, .slice a0 T0.vals.length c0, .slice b0 T0.mail.length d0]) := X0.out.below hb X0.out.lt
  replace X1 : Hid (BX 24 wA9 (w.heap.size + 1) #[.int .i64 T1.step, .int .i64 T1.phase, .bool T1.fresh, .slice a1 T1.vals.length c1, .slice b1 T1.mail.length d1]) := X1.out.below hb X1.out.lt
  replace X2 : Hid (BX 24 wA9 (w.heap.size + 2) #[.int .i64 T2.step, .int .i64 T2.phase, .bool T2.fresh, .slice a2 T2.vals.length c2, .slice b2 T2.mail.length d2]) := X2.out.below hb X2.out.lt
  replace T : Hid (BX 39 wA9 q2 #[.slice D3a ([fS p kb0, fS (1 - p) kb1, cut]).length D3c]) := T.out.below hb T.out.lt
  replace D3 : Hid (DiskR wA9 (.slice D3a ([fS p kb0, fS (1 - p) kb1, cut]).length D3c) ([fS p kb0, fS (1 - p) kb1, cut])) := D3.out.below hb (Nat.le_refl _)
  replace BV : Hid (wA9.ownsRow w.heap.size 53 2 (.slice Ba (keptS T1).vals.length Bc) (keptS T1).vals.length ((keptS T1).vals.flatMap encM)) := own_below BV.out hb (Nat.le_refl _)
  replace BM : Hid (wA9.ownsRow w.heap.size 62 2 (.slice Bb (keptS T1).mail.length Bd) (keptS T1).mail.length ((keptS T1).mail.flatMap encM)) := own_below BM.out hb (Nat.le_refl _)
  replace B : Hid (BX 28 wA9 q4 #[.int .i64 (keptS T1).step, .int .i64 (keptS T1).phase, .bool (keptS T1).fresh, .slice Ba (keptS T1).vals.length Bc, .slice Bb (keptS T1).mail.length Bd]) := B.out.below hb B.out.lt
  have RV : Hid (wA9.ownsRow w.heap.size 53 2 (.slice Ra (keptS T2).vals.length Rc) (keptS T2).vals.length ((keptS T2).vals.flatMap encM)) := own_lower ho1 hle
  have RM : Hid (wA9.ownsRow w.heap.size 62 2 (.slice Rb (keptS T2).mail.length Rd) (keptS T2).mail.length ((keptS T2).mail.flatMap encM)) := own_lower ho2 hle
  clear ho1 ho2 hb hle
  refine ⟨fun _ => KS.out _ wA9_b, ?_⟩
  simp only [Act.put, List.setIfInBounds_toArray, List.set_cons_zero, List.set_cons_succ]
  show wpAnyL _ _ _ _ _ _ _ true _ _ _
  refine oneL (i := 3) rfl (by kernel_rfl) rfl (call_gets (R := fun v w' => ∃ v', v = .tuple #[.agg #[v'], .int .i64 0] ∧ DiskR w' v' ([fS p kb0, fS (1 - p) kb1, fN kb2]) ∧ Below wA9.heap.size wA9 w') (d := 98) (f := 10) (xs := #[.tmp 95, .tmp 97]) (ats := #[39, 28]) rfl rfl eF (vs := #[.agg #[.slice D3a ([fS p kb0, fS (1 - p) kb1, cut] : List FileL).length D3c], .agg #[.int .i64 (keptS T2).step, .int .i64 (keptS T2).phase, .bool (keptS T2).fresh, .slice Ra (keptS T2).vals.length Rc, .slice Rb (keptS T2).mail.length Rd]]) (by simp [Act.eval]) ((CPV.out _ _ _ _ D3.out (RowK.own encM_len RV.out) (RowK.own encM_len RM.out)).mono fun e w' h => by obtain ⟨v', h1, h2, h3⟩ := h; exact ⟨_, h1, v', rfl, h2, h3⟩) ?_)
  rintro v wF10 ⟨v', rfl, hd, hb⟩
  have BF : Below wS7_1.heap.size wS7_1 wF10 := wA9_b.trans (hb.mono wA9_b.size)
  obtain ⟨D4a, D4c, rfl⟩ : ∃ a c, v' = .slice a ([fS p kb0, fS (1 - p) kb1, fN kb2]).length c := by obtain ⟨a, c, e, _⟩ := hd; exact ⟨a, c, e⟩
  replace LB : Hid (Below w.heap.size w wF10) := LB.out.trans (hb.mono LB.out.size)
  replace X0 : Hid (BX 24 wF10 w.heap.size #[.int .i64 T0.step, .int .i64 T0.phase, .bool T0.fresh, .slice a0 T0.vals.length c0, .slice b0 T0.mail.length d0]) := X0.out.below hb X0.out.lt
  replace X1 : Hid (BX 24 wF10 (w.heap.size + 1) #[.int .i64 T1.step, .int .i64 T1.phase, .bool T1.fresh, .slice a1 T1.vals.length c1, .slice b1 T1.mail.length d1]) := X1.out.below hb X1.out.lt
  replace X2 : Hid (BX 24 wF10 (w.heap.size + 2) #[.int .i64 T2.step, .int .i64 T2.phase, .bool T2.fresh, .slice a2 T2.vals.length c2, .slice b2 T2.mail.length d2]) := X2.out.below hb X2.out.lt
  replace T : Hid (BX 39 wF10 q2 #[.slice D3a ([fS p kb0, fS (1 - p) kb1, cut]).length D3c]) := T.out.below hb T.out.lt
  replace D3 : Hid (DiskR wF10 (.slice D3a ([fS p kb0, fS (1 - p) kb1, cut]).length D3c) ([fS p kb0, fS (1 - p) kb1, cut])) := D3.out.below hb (Nat.le_refl _)
  replace BV : Hid (wF10.ownsRow w.heap.size 53 2 (.slice Ba (keptS T1).vals.length Bc) (keptS T1).vals.length ((keptS T1).vals.flatMap encM)) := own_below BV.out hb (Nat.le_refl _)
  replace BM : Hid (wF10.ownsRow w.heap.size 62 2 (.slice Bb (keptS T1).mail.length Bd) (keptS T1).mail.length ((keptS T1).mail.flatMap encM)) := own_below BM.out hb (Nat.le_refl _)
  replace B : Hid (BX 28 wF10 q4 #[.int .i64 (keptS T1).step, .int .i64 (keptS T1).phase, .bool (keptS T1).fresh, .slice Ba (keptS T1).vals.length Bc, .slice Bb (keptS T1).mail.length Bd]) := B.out.below hb B.out.lt
  replace RV : Hid (wF10.ownsRow w.heap.size 53 2 (.slice Ra (keptS T2).vals.length Rc) (keptS T2).vals.length ((keptS T2).vals.flatMap encM)) := own_below RV.out hb (Nat.le_refl _)
  replace RM : Hid (wF10.ownsRow w.heap.size 62 2 (.slice Rb (keptS T2).mail.length Rd) (keptS T2).mail.length ((keptS T2).mail.flatMap encM)) := own_below RM.out hb (Nat.le_refl _)
  have D4 : Hid (DiskR wF10 (.slice D4a ([fS p kb0, fS (1 - p) kb1, fN kb2]).length D4c) ([fS p kb0, fS (1 - p) kb1, fN kb2])) := hd
  clear hd hb
  refine ⟨fun _ => KS.out _ BF, ?_⟩
  simp only [Act.put, List.setIfInBounds_toArray, List.set_cons_zero, List.set_cons_succ]
  show wpAnyL _ _ _ _ _ _ _ true _ _ _
  refine takeL (i := 4) (v := .tuple #[.agg #[.slice D4a ([fS p kb0, fS (1 - p) kb1, fN kb2]).length D4c], .int .i64 0]) (d := 94) rfl rfl (by kernel_rfl) (by kernel_rfl) (by kernel_rfl) (by kernel_rfl) (fun _ _ _ h => h) (by rfl) (fun V hV => by obtain ⟨v1, v2⟩ := hV; have u0 := v2.cell 0; have u1 := v2.cell 1; have u2 := v2.cell 2; have u3 := v2.cell 3; have u4 := v2.cell 4; simp at u0 u1 u2 u3 u4; go_simp) (KS.out _ BF) ?_
  simp only [Act.put, List.setIfInBounds_toArray, List.set_cons_zero, List.set_cons_succ]
  refine takeL (i := 5) (v := .agg #[.slice D4a ([fS p kb0, fS (1 - p) kb1, fN kb2]).length D4c]) (d := 99) rfl rfl (by kernel_rfl) (by kernel_rfl) (by kernel_rfl) (by kernel_rfl) (fun _ _ _ h => h) (by rfl) (fun V hV => by obtain ⟨v1, v2⟩ := hV; have u0 := v2.cell 0; have u1 := v2.cell 1; have u2 := v2.cell 2; have u3 := v2.cell 3; have u4 := v2.cell 4; simp at u0 u1 u2 u3 u4; go_simp) (KS.out _ BF) ?_
  simp only [Act.put, List.setIfInBounds_toArray, List.set_cons_zero, List.set_cons_succ]
  refine takeP (i := 6) (v := .int .i64 0) (d := 100) rfl rfl (by kernel_rfl) (by kernel_rfl) (by kernel_rfl) rfl (fun _ _ _ h => h) (by rfl) (fun V => by go_simp) (fun _ => KS.out _ BF) ?_
  simp only [Act.put, List.setIfInBounds_toArray, List.set_cons_zero, List.set_cons_succ]
  clear z2007_0 z2008_0 z2008_1 z2008_2 z2008_3 z2008_4
  have z2009_0 : wF10.cell? ⟨q2, 0, none⟩ = some (.slice D3a ([fS p kb0, fS (1 - p) kb1, cut]).length D3c) := T.out.cell 0
  have y2010_0 : wF10.frozen? ⟨q2, 0, none⟩ = false := T.out.frozen 0
  refine oneL (i := 7) rfl (by kernel_rfl) rfl (op_skip (w' := wF10.setCell ⟨q2, 0, none⟩ (.slice D4a ([fS p kb0, fS (1 - p) kb1, fN kb2]).length D4c)) rfl (by go_simp) ⟨fun h9 => (by cases h9), ?_⟩)
  refine oneL (i := 8) rfl (by kernel_rfl) rfl (op_run (d := 21) (v' := .int .i64 0) (w' := wF10.setCell ⟨q2, 0, none⟩ (.slice D4a ([fS p kb0, fS (1 - p) kb1, fN kb2]).length D4c)) rfl (by go_simp) ⟨fun h9 => (by cases h9), ?_⟩)
  simp only [Act.put, List.setIfInBounds_toArray, List.set_cons_zero, List.set_cons_succ]
  refine doneL (by kernel_rfl) ?_
  clear z2009_0 y2010_0 KS BF
  have T_old := T.out
  replace LB : Hid (Below w.heap.size w (wF10.setCell ⟨q2, 0, none⟩ (.slice D4a ([fS p kb0, fS (1 - p) kb1, fN kb2]).length D4c))) := LB.out.setCell (show w.heap.size ≤ q2 by omega) _
  replace X0 : Hid (BX 24 (wF10.setCell ⟨q2, 0, none⟩ (.slice D4a ([fS p kb0, fS (1 - p) kb1, fN kb2]).length D4c)) w.heap.size #[.int .i64 T0.step, .int .i64 T0.phase, .bool T0.fresh, .slice a0 T0.vals.length c0, .slice b0 T0.mail.length d0]) := X0.out.other (by omega)
  replace X1 : Hid (BX 24 (wF10.setCell ⟨q2, 0, none⟩ (.slice D4a ([fS p kb0, fS (1 - p) kb1, fN kb2]).length D4c)) (w.heap.size + 1) #[.int .i64 T1.step, .int .i64 T1.phase, .bool T1.fresh, .slice a1 T1.vals.length c1, .slice b1 T1.mail.length d1]) := X1.out.other (by omega)
  replace X2 : Hid (BX 24 (wF10.setCell ⟨q2, 0, none⟩ (.slice D4a ([fS p kb0, fS (1 - p) kb1, fN kb2]).length D4c)) (w.heap.size + 2) #[.int .i64 T2.step, .int .i64 T2.phase, .bool T2.fresh, .slice a2 T2.vals.length c2, .slice b2 T2.mail.length d2]) := X2.out.other (by omega)
  replace T : Hid (BX 39 (wF10.setCell ⟨q2, 0, none⟩ (.slice D4a ([fS p kb0, fS (1 - p) kb1, fN kb2]).length D4c)) q2 #[.slice D4a ([fS p kb0, fS (1 - p) kb1, fN kb2]).length D4c]) := T.out.set 0 _
  replace D3 : Hid (DiskR (wF10.setCell ⟨q2, 0, none⟩ (.slice D4a ([fS p kb0, fS (1 - p) kb1, fN kb2]).length D4c)) (.slice D3a ([fS p kb0, fS (1 - p) kb1, cut]).length D3c) ([fS p kb0, fS (1 - p) kb1, cut])) := D3.out.setBox T_old
  replace BV : Hid ((wF10.setCell ⟨q2, 0, none⟩ (.slice D4a ([fS p kb0, fS (1 - p) kb1, fN kb2]).length D4c)).ownsRow w.heap.size 53 2 (.slice Ba (keptS T1).vals.length Bc) (keptS T1).vals.length ((keptS T1).vals.flatMap encM)) := T_old.own BV.out (by decide)
  replace BM : Hid ((wF10.setCell ⟨q2, 0, none⟩ (.slice D4a ([fS p kb0, fS (1 - p) kb1, fN kb2]).length D4c)).ownsRow w.heap.size 62 2 (.slice Bb (keptS T1).mail.length Bd) (keptS T1).mail.length ((keptS T1).mail.flatMap encM)) := T_old.own BM.out (by decide)
  replace B : Hid (BX 28 (wF10.setCell ⟨q2, 0, none⟩ (.slice D4a ([fS p kb0, fS (1 - p) kb1, fN kb2]).length D4c)) q4 #[.int .i64 (keptS T1).step, .int .i64 (keptS T1).phase, .bool (keptS T1).fresh, .slice Ba (keptS T1).vals.length Bc, .slice Bb (keptS T1).mail.length Bd]) := B.out.other (by omega)
  replace RV : Hid ((wF10.setCell ⟨q2, 0, none⟩ (.slice D4a ([fS p kb0, fS (1 - p) kb1, fN kb2]).length D4c)).ownsRow w.heap.size 53 2 (.slice Ra (keptS T2).vals.length Rc) (keptS T2).vals.length ((keptS T2).vals.flatMap encM)) := T_old.own RV.out (by decide)
  replace RM : Hid ((wF10.setCell ⟨q2, 0, none⟩ (.slice D4a ([fS p kb0, fS (1 - p) kb1, fN kb2]).length D4c)).ownsRow w.heap.size 62 2 (.slice Rb (keptS T2).mail.length Rd) (keptS T2).mail.length ((keptS T2).mail.flatMap encM)) := T_old.own RM.out (by decide)
  replace D4 : Hid (DiskR (wF10.setCell ⟨q2, 0, none⟩ (.slice D4a ([fS p kb0, fS (1 - p) kb1, fN kb2]).length D4c)) (.slice D4a ([fS p kb0, fS (1 - p) kb1, fN kb2]).length D4c) ([fS p kb0, fS (1 - p) kb1, fN kb2])) := D4.out.setBox T_old
  clear T_old
  generalize wF10.setCell ⟨q2, 0, none⟩ (.slice D4a ([fS p kb0, fS (1 - p) kb1, fN kb2]).length D4c) = w9 at *
  try clear BD
  go_upto_region 10 with fail
  clear RV
  clear RM
  clear D3
  have z2011_0 : w9.cell? ⟨q2, 0, none⟩ = some (.slice D4a ([fS p kb0, fS (1 - p) kb1, fN kb2]).length D4c) := T.out.cell 0
  go_wp2_with fail
  refine (CSE.out _ _ D4.out).mono ?_
  rintro e w10 ⟨v', rfl, hd, hb⟩
  obtain ⟨D5a, D5c, rfl⟩ : ∃ a c, v' = .slice a ([fS (1 - p) kb1, fS p kb2]).length c := by obtain ⟨a, c, e, _⟩ := hd; exact ⟨a, c, e⟩
  replace LB : Hid (Below w.heap.size w w10) := LB.out.trans (hb.mono LB.out.size)
  replace X0 : Hid (BX 24 w10 w.heap.size #[.int .i64 T0.step, .int .i64 T0.phase, .bool T0.fresh, .slice a0 T0.vals.length c0, .slice b0 T0.mail.length d0]) := X0.out.below hb X0.out.lt
  replace X1 : Hid (BX 24 w10 (w.heap.size + 1) #[.int .i64 T1.step, .int .i64 T1.phase, .bool T1.fresh, .slice a1 T1.vals.length c1, .slice b1 T1.mail.length d1]) := X1.out.below hb X1.out.lt
  replace X2 : Hid (BX 24 w10 (w.heap.size + 2) #[.int .i64 T2.step, .int .i64 T2.phase, .bool T2.fresh, .slice a2 T2.vals.length c2, .slice b2 T2.mail.length d2]) := X2.out.below hb X2.out.lt
  replace T : Hid (BX 39 w10 q2 #[.slice D4a ([fS p kb0, fS (1 - p) kb1, fN kb2]).length D4c]) := T.out.below hb T.out.lt
  replace BV : Hid (w10.ownsRow w.heap.size 53 2 (.slice Ba (keptS T1).vals.length Bc) (keptS T1).vals.length ((keptS T1).vals.flatMap encM)) := own_below BV.out hb (Nat.le_refl _)
  replace BM : Hid (w10.ownsRow w.heap.size 62 2 (.slice Bb (keptS T1).mail.length Bd) (keptS T1).mail.length ((keptS T1).mail.flatMap encM)) := own_below BM.out hb (Nat.le_refl _)
  replace B : Hid (BX 28 w10 q4 #[.int .i64 (keptS T1).step, .int .i64 (keptS T1).phase, .bool (keptS T1).fresh, .slice Ba (keptS T1).vals.length Bc, .slice Bb (keptS T1).mail.length Bd]) := B.out.below hb B.out.lt
  replace D4 : Hid (DiskR w10 (.slice D4a ([fS p kb0, fS (1 - p) kb1, fN kb2]).length D4c) ([fS p kb0, fS (1 - p) kb1, fN kb2])) := D4.out.below hb (Nat.le_refl _)
  have D5 : Hid (DiskR w10 (.slice D5a ([fS (1 - p) kb1, fS p kb2]).length D5c) ([fS (1 - p) kb1, fS p kb2])) := hd
  clear hd hb
  clear z2011_0
  have z2012_0 : w10.cell? ⟨q2, 0, none⟩ = some (.slice D4a ([fS p kb0, fS (1 - p) kb1, fN kb2]).length D4c) := T.out.cell 0
  have y2013_0 : w10.frozen? ⟨q2, 0, none⟩ = false := T.out.frozen 0
  have T_old := T.out
  replace LB : Hid (Below w.heap.size w (w10.setCell ⟨q2, 0, none⟩ (.slice D5a ([fS (1 - p) kb1, fS p kb2] : List FileL).length D5c))) := LB.out.setCell (show w.heap.size ≤ q2 by omega) _
  replace X0 : Hid (BX 24 (w10.setCell ⟨q2, 0, none⟩ (.slice D5a ([fS (1 - p) kb1, fS p kb2] : List FileL).length D5c)) w.heap.size #[.int .i64 T0.step, .int .i64 T0.phase, .bool T0.fresh, .slice a0 T0.vals.length c0, .slice b0 T0.mail.length d0]) := X0.out.other (by omega)
  replace X1 : Hid (BX 24 (w10.setCell ⟨q2, 0, none⟩ (.slice D5a ([fS (1 - p) kb1, fS p kb2] : List FileL).length D5c)) (w.heap.size + 1) #[.int .i64 T1.step, .int .i64 T1.phase, .bool T1.fresh, .slice a1 T1.vals.length c1, .slice b1 T1.mail.length d1]) := X1.out.other (by omega)
  replace X2 : Hid (BX 24 (w10.setCell ⟨q2, 0, none⟩ (.slice D5a ([fS (1 - p) kb1, fS p kb2] : List FileL).length D5c)) (w.heap.size + 2) #[.int .i64 T2.step, .int .i64 T2.phase, .bool T2.fresh, .slice a2 T2.vals.length c2, .slice b2 T2.mail.length d2]) := X2.out.other (by omega)
  replace T : Hid (BX 39 (w10.setCell ⟨q2, 0, none⟩ (.slice D5a ([fS (1 - p) kb1, fS p kb2] : List FileL).length D5c)) q2 #[.slice D5a ([fS (1 - p) kb1, fS p kb2] : List FileL).length D5c]) := T.out.set 0 _
  replace BV : Hid ((w10.setCell ⟨q2, 0, none⟩ (.slice D5a ([fS (1 - p) kb1, fS p kb2] : List FileL).length D5c)).ownsRow w.heap.size 53 2 (.slice Ba (keptS T1).vals.length Bc) (keptS T1).vals.length ((keptS T1).vals.flatMap encM)) := T_old.own BV.out (by decide)
  replace BM : Hid ((w10.setCell ⟨q2, 0, none⟩ (.slice D5a ([fS (1 - p) kb1, fS p kb2] : List FileL).length D5c)).ownsRow w.heap.size 62 2 (.slice Bb (keptS T1).mail.length Bd) (keptS T1).mail.length ((keptS T1).mail.flatMap encM)) := T_old.own BM.out (by decide)
  replace B : Hid (BX 28 (w10.setCell ⟨q2, 0, none⟩ (.slice D5a ([fS (1 - p) kb1, fS p kb2] : List FileL).length D5c)) q4 #[.int .i64 (keptS T1).step, .int .i64 (keptS T1).phase, .bool (keptS T1).fresh, .slice Ba (keptS T1).vals.length Bc, .slice Bb (keptS T1).mail.length Bd]) := B.out.other (by omega)
  replace D4 : Hid (DiskR (w10.setCell ⟨q2, 0, none⟩ (.slice D5a ([fS (1 - p) kb1, fS p kb2] : List FileL).length D5c)) (.slice D4a ([fS p kb0, fS (1 - p) kb1, fN kb2]).length D4c) ([fS p kb0, fS (1 - p) kb1, fN kb2])) := D4.out.setBox T_old
  replace D5 : Hid (DiskR (w10.setCell ⟨q2, 0, none⟩ (.slice D5a ([fS (1 - p) kb1, fS p kb2] : List FileL).length D5c)) (.slice D5a ([fS (1 - p) kb1, fS p kb2]).length D5c) ([fS (1 - p) kb1, fS p kb2])) := D5.out.setBox T_old
  clear T_old
  go_upto_region 11 with fail
  generalize w10.setCell ⟨q2, 0, none⟩ (.slice D5a ([fS (1 - p) kb1, fS p kb2] : List FileL).length D5c) = w10s at *
  clear z2012_0 y2013_0
  clear D4
  have z2014_0 : w10s.cell? ⟨q2, 0, none⟩ = some (.slice D5a ([fS (1 - p) kb1, fS p kb2] : List FileL).length D5c) := T.out.cell 0
  go_wp2_with fail
  refine (CLC.out _ _ D5.out).mono ?_
  rintro e w11 ⟨v1, v2, rfl, ho1, ho2, hb⟩
  obtain ⟨Ca, Cc, rfl⟩ := (RowK.own encM_len ho1 : MlR w11 v1 (keptS T2).vals).shape
  obtain ⟨Cb, Cd, rfl⟩ := (RowK.own encM_len ho2 : MlR w11 v2 (keptS T2).mail).shape
  have hle := LB.out.size
  replace LB : Hid (Below w.heap.size w w11) := LB.out.trans (hb.mono LB.out.size)
  replace X0 : Hid (BX 24 w11 w.heap.size #[.int .i64 T0.step, .int .i64 T0.phase, .bool T0.fresh, .slice a0 T0.vals.length c0, .slice b0 T0.mail.length d0]) := X0.out.below hb X0.out.lt
  replace X1 : Hid (BX 24 w11 (w.heap.size + 1) #[.int .i64 T1.step, .int .i64 T1.phase, .bool T1.fresh, .slice a1 T1.vals.length c1, .slice b1 T1.mail.length d1]) := X1.out.below hb X1.out.lt
  replace X2 : Hid (BX 24 w11 (w.heap.size + 2) #[.int .i64 T2.step, .int .i64 T2.phase, .bool T2.fresh, .slice a2 T2.vals.length c2, .slice b2 T2.mail.length d2]) := X2.out.below hb X2.out.lt
  replace T : Hid (BX 39 w11 q2 #[.slice D5a ([fS (1 - p) kb1, fS p kb2] : List FileL).length D5c]) := T.out.below hb T.out.lt
  replace BV : Hid (w11.ownsRow w.heap.size 53 2 (.slice Ba (keptS T1).vals.length Bc) (keptS T1).vals.length ((keptS T1).vals.flatMap encM)) := own_below BV.out hb (Nat.le_refl _)
  replace BM : Hid (w11.ownsRow w.heap.size 62 2 (.slice Bb (keptS T1).mail.length Bd) (keptS T1).mail.length ((keptS T1).mail.flatMap encM)) := own_below BM.out hb (Nat.le_refl _)
  replace B : Hid (BX 28 w11 q4 #[.int .i64 (keptS T1).step, .int .i64 (keptS T1).phase, .bool (keptS T1).fresh, .slice Ba (keptS T1).vals.length Bc, .slice Bb (keptS T1).mail.length Bd]) := B.out.below hb B.out.lt
  replace D5 : Hid (DiskR w11 (.slice D5a ([fS (1 - p) kb1, fS p kb2]).length D5c) ([fS (1 - p) kb1, fS p kb2])) := D5.out.below hb (Nat.le_refl _)
  have CV : Hid (w11.ownsRow w.heap.size 53 2 (.slice Ca (keptS T2).vals.length Cc) (keptS T2).vals.length ((keptS T2).vals.flatMap encM)) := own_lower ho1 hle
  have CM : Hid (w11.ownsRow w.heap.size 62 2 (.slice Cb (keptS T2).mail.length Cd) (keptS T2).mail.length ((keptS T2).mail.flatMap encM)) := own_lower ho2 hle
  clear ho1 ho2 hb hle
  clear z2014_0
  have L9 := LB.out.size
  have M9_X0 := X0.out.lt
  have M9_X1 := X1.out.lt
  have M9_X2 := X2.out.lt
  have M9_T := T.out.lt
  have M9_B := B.out.lt
  replace LB : Hid (Below w.heap.size w (w11.alloc (.cells #[.int .i64 (keptS T2).step, .int .i64 (keptS T2).phase, .bool (keptS T2).fresh, .slice Ca (keptS T2).vals.length Cc, .slice Cb (keptS T2).mail.length Cd] 28))) := LB.out.alloc LB.out.size _
  replace X0 : Hid (BX 24 (w11.alloc (.cells #[.int .i64 (keptS T2).step, .int .i64 (keptS T2).phase, .bool (keptS T2).fresh, .slice Ca (keptS T2).vals.length Cc, .slice Cb (keptS T2).mail.length Cd] 28)) w.heap.size #[.int .i64 T0.step, .int .i64 T0.phase, .bool T0.fresh, .slice a0 T0.vals.length c0, .slice b0 T0.mail.length d0]) := X0.out.below (below_alloc _ _) X0.out.lt
  replace X1 : Hid (BX 24 (w11.alloc (.cells #[.int .i64 (keptS T2).step, .int .i64 (keptS T2).phase, .bool (keptS T2).fresh, .slice Ca (keptS T2).vals.length Cc, .slice Cb (keptS T2).mail.length Cd] 28)) (w.heap.size + 1) #[.int .i64 T1.step, .int .i64 T1.phase, .bool T1.fresh, .slice a1 T1.vals.length c1, .slice b1 T1.mail.length d1]) := X1.out.below (below_alloc _ _) X1.out.lt
  replace X2 : Hid (BX 24 (w11.alloc (.cells #[.int .i64 (keptS T2).step, .int .i64 (keptS T2).phase, .bool (keptS T2).fresh, .slice Ca (keptS T2).vals.length Cc, .slice Cb (keptS T2).mail.length Cd] 28)) (w.heap.size + 2) #[.int .i64 T2.step, .int .i64 T2.phase, .bool T2.fresh, .slice a2 T2.vals.length c2, .slice b2 T2.mail.length d2]) := X2.out.below (below_alloc _ _) X2.out.lt
  replace T : Hid (BX 39 (w11.alloc (.cells #[.int .i64 (keptS T2).step, .int .i64 (keptS T2).phase, .bool (keptS T2).fresh, .slice Ca (keptS T2).vals.length Cc, .slice Cb (keptS T2).mail.length Cd] 28)) q2 #[.slice D5a ([fS (1 - p) kb1, fS p kb2] : List FileL).length D5c]) := T.out.below (below_alloc _ _) T.out.lt
  replace BV : Hid ((w11.alloc (.cells #[.int .i64 (keptS T2).step, .int .i64 (keptS T2).phase, .bool (keptS T2).fresh, .slice Ca (keptS T2).vals.length Cc, .slice Cb (keptS T2).mail.length Cd] 28)).ownsRow w.heap.size 53 2 (.slice Ba (keptS T1).vals.length Bc) (keptS T1).vals.length ((keptS T1).vals.flatMap encM)) := own_below BV.out (below_alloc _ _) (Nat.le_refl _)
  replace BM : Hid ((w11.alloc (.cells #[.int .i64 (keptS T2).step, .int .i64 (keptS T2).phase, .bool (keptS T2).fresh, .slice Ca (keptS T2).vals.length Cc, .slice Cb (keptS T2).mail.length Cd] 28)).ownsRow w.heap.size 62 2 (.slice Bb (keptS T1).mail.length Bd) (keptS T1).mail.length ((keptS T1).mail.flatMap encM)) := own_below BM.out (below_alloc _ _) (Nat.le_refl _)
  replace B : Hid (BX 28 (w11.alloc (.cells #[.int .i64 (keptS T2).step, .int .i64 (keptS T2).phase, .bool (keptS T2).fresh, .slice Ca (keptS T2).vals.length Cc, .slice Cb (keptS T2).mail.length Cd] 28)) q4 #[.int .i64 (keptS T1).step, .int .i64 (keptS T1).phase, .bool (keptS T1).fresh, .slice Ba (keptS T1).vals.length Bc, .slice Bb (keptS T1).mail.length Bd]) := B.out.below (below_alloc _ _) B.out.lt
  replace D5 : Hid (DiskR (w11.alloc (.cells #[.int .i64 (keptS T2).step, .int .i64 (keptS T2).phase, .bool (keptS T2).fresh, .slice Ca (keptS T2).vals.length Cc, .slice Cb (keptS T2).mail.length Cd] 28)) (.slice D5a ([fS (1 - p) kb1, fS p kb2]).length D5c) ([fS (1 - p) kb1, fS p kb2])) := D5.out.below (below_alloc _ _) (Nat.le_refl _)
  replace CV : Hid ((w11.alloc (.cells #[.int .i64 (keptS T2).step, .int .i64 (keptS T2).phase, .bool (keptS T2).fresh, .slice Ca (keptS T2).vals.length Cc, .slice Cb (keptS T2).mail.length Cd] 28)).ownsRow w.heap.size 53 2 (.slice Ca (keptS T2).vals.length Cc) (keptS T2).vals.length ((keptS T2).vals.flatMap encM)) := own_below CV.out (below_alloc _ _) (Nat.le_refl _)
  replace CM : Hid ((w11.alloc (.cells #[.int .i64 (keptS T2).step, .int .i64 (keptS T2).phase, .bool (keptS T2).fresh, .slice Ca (keptS T2).vals.length Cc, .slice Cb (keptS T2).mail.length Cd] 28)).ownsRow w.heap.size 62 2 (.slice Cb (keptS T2).mail.length Cd) (keptS T2).mail.length ((keptS T2).mail.flatMap encM)) := own_below CM.out (below_alloc _ _) (Nat.le_refl _)
  have C : Hid (BX 28 (w11.alloc (.cells #[.int .i64 (keptS T2).step, .int .i64 (keptS T2).phase, .bool (keptS T2).fresh, .slice Ca (keptS T2).vals.length Cc, .slice Cb (keptS T2).mail.length Cd] 28)) w11.heap.size #[.int .i64 (keptS T2).step, .int .i64 (keptS T2).phase, .bool (keptS T2).fresh, .slice Ca (keptS T2).vals.length Cc, .slice Cb (keptS T2).mail.length Cd]) := BX.new _ _ _
  have l_q5 : w.heap.size ≤ w11.heap.size := L9
  clear L9
  have n_X0_q5 : w.heap.size < w11.heap.size := M9_X0
  clear M9_X0
  have n_X1_q5 : (w.heap.size + 1) < w11.heap.size := M9_X1
  clear M9_X1
  have n_X2_q5 : (w.heap.size + 2) < w11.heap.size := M9_X2
  clear M9_X2
  have n_T_q5 : q2 < w11.heap.size := M9_T
  clear M9_T
  have n_B_q5 : q4 < w11.heap.size := M9_B
  clear M9_B
  go_upto_region 12 with fail
  generalize w11.alloc (.cells #[.int .i64 (keptS T2).step, .int .i64 (keptS T2).phase, .bool (keptS T2).fresh, .slice Ca (keptS T2).vals.length Cc, .slice Cb (keptS T2).mail.length Cd] 28) = w11n at *
  generalize w11.heap.size = q5 at *
  have z2015_0 : w11n.cell? ⟨q2, 0, none⟩ = some (.slice D5a ([fS (1 - p) kb1, fS p kb2] : List FileL).length D5c) := T.out.cell 0
  go_wp2_with fail
  refine (CLD.out _ _ D5.out).mono ?_
  rintro e w12 ⟨v1, v2, rfl, ho1, ho2, hb⟩
  obtain ⟨Ea, Ec, rfl⟩ := (RowK.own encM_len ho1 : MlR w12 v1 (keptS T1).vals).shape
  obtain ⟨Eb, Ed, rfl⟩ := (RowK.own encM_len ho2 : MlR w12 v2 (keptS T1).mail).shape
  have hle := LB.out.size
  replace LB : Hid (Below w.heap.size w w12) := LB.out.trans (hb.mono LB.out.size)
  replace X0 : Hid (BX 24 w12 w.heap.size #[.int .i64 T0.step, .int .i64 T0.phase, .bool T0.fresh, .slice a0 T0.vals.length c0, .slice b0 T0.mail.length d0]) := X0.out.below hb X0.out.lt
  replace X1 : Hid (BX 24 w12 (w.heap.size + 1) #[.int .i64 T1.step, .int .i64 T1.phase, .bool T1.fresh, .slice a1 T1.vals.length c1, .slice b1 T1.mail.length d1]) := X1.out.below hb X1.out.lt
  replace X2 : Hid (BX 24 w12 (w.heap.size + 2) #[.int .i64 T2.step, .int .i64 T2.phase, .bool T2.fresh, .slice a2 T2.vals.length c2, .slice b2 T2.mail.length d2]) := X2.out.below hb X2.out.lt
  replace T : Hid (BX 39 w12 q2 #[.slice D5a ([fS (1 - p) kb1, fS p kb2] : List FileL).length D5c]) := T.out.below hb T.out.lt
  replace BV : Hid (w12.ownsRow w.heap.size 53 2 (.slice Ba (keptS T1).vals.length Bc) (keptS T1).vals.length ((keptS T1).vals.flatMap encM)) := own_below BV.out hb (Nat.le_refl _)
  replace BM : Hid (w12.ownsRow w.heap.size 62 2 (.slice Bb (keptS T1).mail.length Bd) (keptS T1).mail.length ((keptS T1).mail.flatMap encM)) := own_below BM.out hb (Nat.le_refl _)
  replace B : Hid (BX 28 w12 q4 #[.int .i64 (keptS T1).step, .int .i64 (keptS T1).phase, .bool (keptS T1).fresh, .slice Ba (keptS T1).vals.length Bc, .slice Bb (keptS T1).mail.length Bd]) := B.out.below hb B.out.lt
  replace D5 : Hid (DiskR w12 (.slice D5a ([fS (1 - p) kb1, fS p kb2]).length D5c) ([fS (1 - p) kb1, fS p kb2])) := D5.out.below hb (Nat.le_refl _)
  replace CV : Hid (w12.ownsRow w.heap.size 53 2 (.slice Ca (keptS T2).vals.length Cc) (keptS T2).vals.length ((keptS T2).vals.flatMap encM)) := own_below CV.out hb (Nat.le_refl _)
  replace CM : Hid (w12.ownsRow w.heap.size 62 2 (.slice Cb (keptS T2).mail.length Cd) (keptS T2).mail.length ((keptS T2).mail.flatMap encM)) := own_below CM.out hb (Nat.le_refl _)
  replace C : Hid (BX 28 w12 q5 #[.int .i64 (keptS T2).step, .int .i64 (keptS T2).phase, .bool (keptS T2).fresh, .slice Ca (keptS T2).vals.length Cc, .slice Cb (keptS T2).mail.length Cd]) := C.out.below hb C.out.lt
  have EV : Hid (w12.ownsRow w.heap.size 53 2 (.slice Ea (keptS T1).vals.length Ec) (keptS T1).vals.length ((keptS T1).vals.flatMap encM)) := own_lower ho1 hle
  have EM : Hid (w12.ownsRow w.heap.size 62 2 (.slice Eb (keptS T1).mail.length Ed) (keptS T1).mail.length ((keptS T1).mail.flatMap encM)) := own_lower ho2 hle
  clear ho1 ho2 hb hle
  clear z2015_0
  clear T
  clear D5
  have z2016_0 : w12.cell? ⟨q4, 0, none⟩ = some (.int .i64 (keptS T1).step) := B.out.cell 0
  have z2016_1 : w12.cell? ⟨q4, 1, none⟩ = some (.int .i64 (keptS T1).phase) := B.out.cell 1
  have z2016_2 : w12.cell? ⟨q4, 2, none⟩ = some (.bool (keptS T1).fresh) := B.out.cell 2
  have z2016_3 : w12.cell? ⟨q4, 3, none⟩ = some (.slice Ba (keptS T1).vals.length Bc) := B.out.cell 3
  have z2016_4 : w12.cell? ⟨q4, 4, none⟩ = some (.slice Bb (keptS T1).mail.length Bd) := B.out.cell 4
  have y2017_0 : w12.frozen? ⟨q4, 0, none⟩ = false := B.out.frozen 0
  have y2017_1 : w12.frozen? ⟨q4, 1, none⟩ = false := B.out.frozen 1
  have y2017_2 : w12.frozen? ⟨q4, 2, none⟩ = false := B.out.frozen 2
  have y2017_3 : w12.frozen? ⟨q4, 3, none⟩ = false := B.out.frozen 3
  have y2017_4 : w12.frozen? ⟨q4, 4, none⟩ = false := B.out.frozen 4
  have B_old := B.out
  replace LB : Hid (Below w.heap.size w (putS w12 q4 (.int .i64 (keptS T1).step) (.int .i64 (keptS T1).phase) (.bool (keptS T1).fresh) (.slice Ea (keptS T1).vals.length Ec) (.slice Eb (keptS T1).mail.length Ed))) := below_putS LB.out (by omega) _ _ _ _ _
  replace X0 : Hid (BX 24 (putS w12 q4 (.int .i64 (keptS T1).step) (.int .i64 (keptS T1).phase) (.bool (keptS T1).fresh) (.slice Ea (keptS T1).vals.length Ec) (.slice Eb (keptS T1).mail.length Ed)) w.heap.size #[.int .i64 T0.step, .int .i64 T0.phase, .bool T0.fresh, .slice a0 T0.vals.length c0, .slice b0 T0.mail.length d0]) := X0.out.kept (kept_putS w12 q4 _ _ _ _ _) (by omega)
  replace X1 : Hid (BX 24 (putS w12 q4 (.int .i64 (keptS T1).step) (.int .i64 (keptS T1).phase) (.bool (keptS T1).fresh) (.slice Ea (keptS T1).vals.length Ec) (.slice Eb (keptS T1).mail.length Ed)) (w.heap.size + 1) #[.int .i64 T1.step, .int .i64 T1.phase, .bool T1.fresh, .slice a1 T1.vals.length c1, .slice b1 T1.mail.length d1]) := X1.out.kept (kept_putS w12 q4 _ _ _ _ _) (by omega)
  replace X2 : Hid (BX 24 (putS w12 q4 (.int .i64 (keptS T1).step) (.int .i64 (keptS T1).phase) (.bool (keptS T1).fresh) (.slice Ea (keptS T1).vals.length Ec) (.slice Eb (keptS T1).mail.length Ed)) (w.heap.size + 2) #[.int .i64 T2.step, .int .i64 T2.phase, .bool T2.fresh, .slice a2 T2.vals.length c2, .slice b2 T2.mail.length d2]) := X2.out.kept (kept_putS w12 q4 _ _ _ _ _) (by omega)
  replace BV : Hid ((putS w12 q4 (.int .i64 (keptS T1).step) (.int .i64 (keptS T1).phase) (.bool (keptS T1).fresh) (.slice Ea (keptS T1).vals.length Ec) (.slice Eb (keptS T1).mail.length Ed)).ownsRow w.heap.size 53 2 (.slice Ba (keptS T1).vals.length Bc) (keptS T1).vals.length ((keptS T1).vals.flatMap encM)) := own_off BV.out B_old (by decide) (kept_putS w12 q4 _ _ _ _ _)
  replace BM : Hid ((putS w12 q4 (.int .i64 (keptS T1).step) (.int .i64 (keptS T1).phase) (.bool (keptS T1).fresh) (.slice Ea (keptS T1).vals.length Ec) (.slice Eb (keptS T1).mail.length Ed)).ownsRow w.heap.size 62 2 (.slice Bb (keptS T1).mail.length Bd) (keptS T1).mail.length ((keptS T1).mail.flatMap encM)) := own_off BM.out B_old (by decide) (kept_putS w12 q4 _ _ _ _ _)
  replace B : Hid (BX 28 (putS w12 q4 (.int .i64 (keptS T1).step) (.int .i64 (keptS T1).phase) (.bool (keptS T1).fresh) (.slice Ea (keptS T1).vals.length Ec) (.slice Eb (keptS T1).mail.length Ed)) q4 #[.int .i64 (keptS T1).step, .int .i64 (keptS T1).phase, .bool (keptS T1).fresh, .slice Ea (keptS T1).vals.length Ec, .slice Eb (keptS T1).mail.length Ed]) := B_old.putS
  replace CV : Hid ((putS w12 q4 (.int .i64 (keptS T1).step) (.int .i64 (keptS T1).phase) (.bool (keptS T1).fresh) (.slice Ea (keptS T1).vals.length Ec) (.slice Eb (keptS T1).mail.length Ed)).ownsRow w.heap.size 53 2 (.slice Ca (keptS T2).vals.length Cc) (keptS T2).vals.length ((keptS T2).vals.flatMap encM)) := own_off CV.out B_old (by decide) (kept_putS w12 q4 _ _ _ _ _)
  replace CM : Hid ((putS w12 q4 (.int .i64 (keptS T1).step) (.int .i64 (keptS T1).phase) (.bool (keptS T1).fresh) (.slice Ea (keptS T1).vals.length Ec) (.slice Eb (keptS T1).mail.length Ed)).ownsRow w.heap.size 62 2 (.slice Cb (keptS T2).mail.length Cd) (keptS T2).mail.length ((keptS T2).mail.flatMap encM)) := own_off CM.out B_old (by decide) (kept_putS w12 q4 _ _ _ _ _)
  replace C : Hid (BX 28 (putS w12 q4 (.int .i64 (keptS T1).step) (.int .i64 (keptS T1).phase) (.bool (keptS T1).fresh) (.slice Ea (keptS T1).vals.length Ec) (.slice Eb (keptS T1).mail.length Ed)) q5 #[.int .i64 (keptS T2).step, .int .i64 (keptS T2).phase, .bool (keptS T2).fresh, .slice Ca (keptS T2).vals.length Cc, .slice Cb (keptS T2).mail.length Cd]) := C.out.kept (kept_putS w12 q4 _ _ _ _ _) (by omega)
  replace EV : Hid ((putS w12 q4 (.int .i64 (keptS T1).step) (.int .i64 (keptS T1).phase) (.bool (keptS T1).fresh) (.slice Ea (keptS T1).vals.length Ec) (.slice Eb (keptS T1).mail.length Ed)).ownsRow w.heap.size 53 2 (.slice Ea (keptS T1).vals.length Ec) (keptS T1).vals.length ((keptS T1).vals.flatMap encM)) := own_off EV.out B_old (by decide) (kept_putS w12 q4 _ _ _ _ _)
  replace EM : Hid ((putS w12 q4 (.int .i64 (keptS T1).step) (.int .i64 (keptS T1).phase) (.bool (keptS T1).fresh) (.slice Ea (keptS T1).vals.length Ec) (.slice Eb (keptS T1).mail.length Ed)).ownsRow w.heap.size 62 2 (.slice Eb (keptS T1).mail.length Ed) (keptS T1).mail.length ((keptS T1).mail.flatMap encM)) := own_off EM.out B_old (by decide) (kept_putS w12 q4 _ _ _ _ _)
  clear B_old
  unfold putS at LB X0 X1 X2 BV BM B CV CM C EV EM
  go_upto_region 13 with fail
  clear z2016_0 z2016_1 z2016_2 z2016_3 z2016_4 y2017_0 y2017_1 y2017_2 y2017_3 y2017_4
  generalize ((((w12.setCell ⟨q4, 0, none⟩ (.int .i64 (keptS T1).step)).setCell ⟨q4, 1, none⟩ (.int .i64 (keptS T1).phase)).setCell ⟨q4, 2, none⟩ (.bool (keptS T1).fresh)).setCell ⟨q4, 3, none⟩ (.slice Ea (keptS T1).vals.length Ec)).setCell ⟨q4, 4, none⟩ (.slice Eb (keptS T1).mail.length Ed) = w12s at *
  clear BV
  clear BM
  have BV := EV
  have BM := EM
  clear EV EM
  have KS : Hid (∀ V, Below w12s.heap.size w12s V → BX 28 V q5 #[.int .i64 (keptS T2).step, .int .i64 (keptS T2).phase, .bool (keptS T2).fresh, .slice Ca (keptS T2).vals.length Cc, .slice Cb (keptS T2).mail.length Cd] ∧ BX 28 V q4 #[.int .i64 (keptS T1).step, .int .i64 (keptS T1).phase, .bool (keptS T1).fresh, .slice Ea (keptS T1).vals.length Ec, .slice Eb (keptS T1).mail.length Ed] ∧ BX 24 V (w.heap.size + 2) #[.int .i64 T2.step, .int .i64 T2.phase, .bool T2.fresh, .slice a2 T2.vals.length c2, .slice b2 T2.mail.length d2] ∧ BX 24 V (w.heap.size + 1) #[.int .i64 T1.step, .int .i64 T1.phase, .bool T1.fresh, .slice a1 T1.vals.length c1, .slice b1 T1.mail.length d1]) := fun V h => ⟨C.out.below h C.out.lt, B.out.below h B.out.lt, X2.out.below h X2.out.lt, X1.out.below h X1.out.lt⟩
  have BD : Below w12s.heap.size w12s w12s.drew := (Below.refl _ _).drew
  replace LB : Hid (Below w.heap.size w w12s.drew) := LB.out.trans (BD.mono LB.out.size)
  replace X0 : Hid (BX 24 w12s.drew w.heap.size #[.int .i64 T0.step, .int .i64 T0.phase, .bool T0.fresh, .slice a0 T0.vals.length c0, .slice b0 T0.mail.length d0]) := X0.out.below BD X0.out.lt
  replace X1 : Hid (BX 24 w12s.drew (w.heap.size + 1) #[.int .i64 T1.step, .int .i64 T1.phase, .bool T1.fresh, .slice a1 T1.vals.length c1, .slice b1 T1.mail.length d1]) := X1.out.below BD X1.out.lt
  replace X2 : Hid (BX 24 w12s.drew (w.heap.size + 2) #[.int .i64 T2.step, .int .i64 T2.phase, .bool T2.fresh, .slice a2 T2.vals.length c2, .slice b2 T2.mail.length d2]) := X2.out.below BD X2.out.lt
  replace B : Hid (BX 28 w12s.drew q4 #[.int .i64 (keptS T1).step, .int .i64 (keptS T1).phase, .bool (keptS T1).fresh, .slice Ea (keptS T1).vals.length Ec, .slice Eb (keptS T1).mail.length Ed]) := B.out.below BD B.out.lt
  replace CV : Hid (w12s.drew.ownsRow w.heap.size 53 2 (.slice Ca (keptS T2).vals.length Cc) (keptS T2).vals.length ((keptS T2).vals.flatMap encM)) := own_below CV.out BD (Nat.le_refl _)
  replace CM : Hid (w12s.drew.ownsRow w.heap.size 62 2 (.slice Cb (keptS T2).mail.length Cd) (keptS T2).mail.length ((keptS T2).mail.flatMap encM)) := own_below CM.out BD (Nat.le_refl _)
  replace C : Hid (BX 28 w12s.drew q5 #[.int .i64 (keptS T2).step, .int .i64 (keptS T2).phase, .bool (keptS T2).fresh, .slice Ca (keptS T2).vals.length Cc, .slice Cb (keptS T2).mail.length Cd]) := C.out.below BD C.out.lt
  replace BV : Hid (w12s.drew.ownsRow w.heap.size 53 2 (.slice Ea (keptS T1).vals.length Ec) (keptS T1).vals.length ((keptS T1).vals.flatMap encM)) := own_below BV.out BD (Nat.le_refl _)
  replace BM : Hid (w12s.drew.ownsRow w.heap.size 62 2 (.slice Eb (keptS T1).mail.length Ed) (keptS T1).mail.length ((keptS T1).mail.flatMap encM)) := own_below BM.out BD (Nat.le_refl _)
  refine wp_region_held (S := fun V => BX 28 V q5 #[.int .i64 (keptS T2).step, .int .i64 (keptS T2).phase, .bool (keptS T2).fresh, .slice Ca (keptS T2).vals.length Cc, .slice Cb (keptS T2).mail.length Cd] ∧ BX 28 V q4 #[.int .i64 (keptS T1).step, .int .i64 (keptS T1).phase, .bool (keptS T1).fresh, .slice Ea (keptS T1).vals.length Ec, .slice Eb (keptS T1).mail.length Ed] ∧ BX 24 V (w.heap.size + 2) #[.int .i64 T2.step, .int .i64 T2.phase, .bool T2.fresh, .slice a2 T2.vals.length c2, .slice b2 T2.mail.length d2] ∧ BX 24 V (w.heap.size + 1) #[.int .i64 T1.step, .int .i64 T1.phase, .bool T1.fresh, .slice a1 T1.vals.length c1, .slice b1 T1.mail.length d1]) (by kernel_rfl) ?_
  simp only [List.size_toArray, List.length_cons, List.length_nil, Nat.reduceAdd]
  refine takeH (i := 0) (v := .int .i64 0) (d := 120) rfl rfl (by kernel_rfl) (by kernel_rfl) (by kernel_rfl) (fun _ _ _ h => h) (by rfl) (fun V hV => by have _ := hV; go_simp) (KS.out _ BD) ?_
  simp only [Act.put, List.setIfInBounds_toArray, List.set_cons_zero, List.set_cons_succ]
  refine takeH (i := 1) (v := .bool true) (d := 121) rfl rfl (by kernel_rfl) (by kernel_rfl) (by kernel_rfl) (fun _ _ _ h => h) (by rfl) (fun V hV => by have _ := hV; go_simp) (KS.out _ BD) ?_
  simp only [Act.put, List.setIfInBounds_toArray, List.set_cons_zero, List.set_cons_succ]
  refine takeH (i := 2) (v := .bool true) (d := 122) rfl rfl (by kernel_rfl) (by kernel_rfl) (by kernel_rfl) (fun _ _ _ h => h) (by rfl) (fun V hV => by have _ := hV; go_simp) (KS.out _ BD) ?_
  simp only [Act.put, List.setIfInBounds_toArray, List.set_cons_zero, List.set_cons_succ]
  refine takeH (i := 3) (v := .int .i64 0) (d := 123) rfl rfl (by kernel_rfl) (by kernel_rfl) (by kernel_rfl) (fun _ _ _ h => h) (by rfl) (fun V hV => by have _ := hV; go_simp) (KS.out _ BD) ?_
  simp only [Act.put, List.setIfInBounds_toArray, List.set_cons_zero, List.set_cons_succ]
  refine takeH (i := 4) (v := .bool true) (d := 124) rfl rfl (by kernel_rfl) (by kernel_rfl) (by kernel_rfl) (fun _ _ _ h => h) (by rfl) (fun V hV => by have _ := hV; go_simp) (KS.out _ BD) ?_
  simp only [Act.put, List.setIfInBounds_toArray, List.set_cons_zero, List.set_cons_succ]
  refine takeH (i := 5) (v := .bool true) (d := 125) rfl rfl (by kernel_rfl) (by kernel_rfl) (by kernel_rfl) (fun _ _ _ h => h) (by rfl) (fun V hV => by have _ := hV; go_simp) (KS.out _ BD) ?_
  simp only [Act.put, List.setIfInBounds_toArray, List.set_cons_zero, List.set_cons_succ]
  refine takeH (i := 6) (v := .bool true) (d := 126) rfl rfl (by kernel_rfl) (by kernel_rfl) (by kernel_rfl) (fun _ _ _ h => h) (by rfl) (fun V hV => by have _ := hV; go_simp) (KS.out _ BD) ?_
  simp only [Act.put, List.setIfInBounds_toArray, List.set_cons_zero, List.set_cons_succ]
  refine takeH (i := 7) (v := .int .i64 0) (d := 127) rfl rfl (by kernel_rfl) (by kernel_rfl) (by kernel_rfl) (fun _ _ _ h => h) (by rfl) (fun V hV => by have _ := hV; go_simp) (KS.out _ BD) ?_
  simp only [Act.put, List.setIfInBounds_toArray, List.set_cons_zero, List.set_cons_succ]
  refine takeH (i := 8) (v := .bool true) (d := 128) rfl rfl (by kernel_rfl) (by kernel_rfl) (by kernel_rfl) (fun _ _ _ h => h) (by rfl) (fun V hV => by have _ := hV; go_simp) (KS.out _ BD) ?_
  simp only [Act.put, List.setIfInBounds_toArray, List.set_cons_zero, List.set_cons_succ]
  refine takeH (i := 9) (v := .bool true) (d := 129) rfl rfl (by kernel_rfl) (by kernel_rfl) (by kernel_rfl) (fun _ _ _ h => h) (by rfl) (fun V hV => by have _ := hV; go_simp) (KS.out _ BD) ?_
  simp only [Act.put, List.setIfInBounds_toArray, List.set_cons_zero, List.set_cons_succ]
  refine takeH (i := 10) (v := .bool true) (d := 130) rfl rfl (by kernel_rfl) (by kernel_rfl) (by kernel_rfl) (fun _ _ _ h => h) (by rfl) (fun V hV => by have _ := hV; go_simp) (KS.out _ BD) ?_
  simp only [Act.put, List.setIfInBounds_toArray, List.set_cons_zero, List.set_cons_succ]
  refine takeH (i := 11) (v := .int .i64 0) (d := 131) rfl rfl (by kernel_rfl) (by kernel_rfl) (by kernel_rfl) (fun _ _ _ h => h) (by rfl) (fun V hV => by have _ := hV; go_simp) (KS.out _ BD) ?_
  simp only [Act.put, List.setIfInBounds_toArray, List.set_cons_zero, List.set_cons_succ]
  refine takeH (i := 12) (v := .bool true) (d := 132) rfl rfl (by kernel_rfl) (by kernel_rfl) (by kernel_rfl) (fun _ _ _ h => h) (by rfl) (fun V hV => by have _ := hV; go_simp) (KS.out _ BD) ?_
  simp only [Act.put, List.setIfInBounds_toArray, List.set_cons_zero, List.set_cons_succ]
  refine takeH (i := 13) (v := .bool true) (d := 133) rfl rfl (by kernel_rfl) (by kernel_rfl) (by kernel_rfl) (fun _ _ _ h => h) (by rfl) (fun V hV => by have _ := hV; go_simp) (KS.out _ BD) ?_
  simp only [Act.put, List.setIfInBounds_toArray, List.set_cons_zero, List.set_cons_succ]
  refine takeH (i := 14) (v := .bool true) (d := 134) rfl rfl (by kernel_rfl) (by kernel_rfl) (by kernel_rfl) (fun _ _ _ h => h) (by rfl) (fun V hV => by have _ := hV; go_simp) (KS.out _ BD) ?_
  simp only [Act.put, List.setIfInBounds_toArray, List.set_cons_zero, List.set_cons_succ]
  refine takeH (i := 15) (v := .agg #[.int .i64 (keptS T2).step, .int .i64 (keptS T2).phase, .bool (keptS T2).fresh, .slice Ca (keptS T2).vals.length Cc, .slice Cb (keptS T2).mail.length Cd]) (d := 135) rfl rfl (by kernel_rfl) (by kernel_rfl) (by kernel_rfl) (fun _ _ _ h => h) (by rfl) (fun V hV => by have u0 := (hV.1).cell 0; have u1 := (hV.1).cell 1; have u2 := (hV.1).cell 2; have u3 := (hV.1).cell 3; have u4 := (hV.1).cell 4; simp at u0 u1 u2 u3 u4; go_simp) (KS.out _ BD) ?_
  simp only [Act.put, List.setIfInBounds_toArray, List.set_cons_zero, List.set_cons_succ]
  refine takeH (i := 16) (v := .agg #[.int .i64 T2.step, .int .i64 T2.phase, .bool T2.fresh, .slice a2 T2.vals.length c2, .slice b2 T2.mail.length d2]) (d := 136) rfl rfl (by kernel_rfl) (by kernel_rfl) (by kernel_rfl) (fun _ _ _ h => h) (by rfl) (fun V hV => by have u0 := (hV.2.2.1).cell 0; have u1 := (hV.2.2.1).cell 1; have u2 := (hV.2.2.1).cell 2; have u3 := (hV.2.2.1).cell 3; have u4 := (hV.2.2.1).cell 4; simp at u0 u1 u2 u3 u4; go_simp) (KS.out _ BD) ?_
  simp only [Act.put, List.setIfInBounds_toArray, List.set_cons_zero, List.set_cons_succ]
  refine oneHW (i := 17) rfl (by kernel_rfl) (by rfl) (call_gets (R := fun v w' => ∃ v1 v2, v = .agg #[.int .i64 (keptS T2).step, .int .i64 (keptS T2).phase, .bool (keptS T2).fresh, v1, v2] ∧ w'.ownsRow w12s.drew.heap.size 53 2 v1 (keptS T2).vals.length ((keptS T2).vals.flatMap encM) ∧ w'.ownsRow w12s.drew.heap.size 62 2 v2 (keptS T2).mail.length ((keptS T2).mail.flatMap encM) ∧ Below w12s.drew.heap.size w12s.drew w') (d := 137) (f := 6) (xs := #[.tmp 136]) (ats := #[24]) rfl rfl eA (vs := #[.agg #[.int .i64 T2.step, .int .i64 T2.phase, .bool T2.fresh, .slice a2 T2.vals.length c2, .slice b2 T2.mail.length d2]]) (by simp [Act.eval]) ((CK2.out _ LB.out).mono fun e w' h => by obtain ⟨v1, v2, h1, h2, h3, h4⟩ := h; exact ⟨_, h1, v1, v2, rfl, h2, h3, h4⟩) ?_)
  rintro v wK13_0 ⟨v1, v2, rfl, ho1, ho2, hb⟩
  have wK13_0_b : Below w12s.heap.size w12s wK13_0 := (BD).trans (hb.mono (Below.size (BD)))
  obtain ⟨K0a, K0c, rfl⟩ := (RowK.own encM_len ho1 : MlR wK13_0 v1 (keptS T2).vals).shape
  obtain ⟨K0b, K0d, rfl⟩ := (RowK.own encM_len ho2 : MlR wK13_0 v2 (keptS T2).mail).shape
  have hle := LB.out.size
  replace LB : Hid (Below w.heap.size w wK13_0) := LB.out.trans (hb.mono LB.out.size)
  replace X0 : Hid (BX 24 wK13_0 w.heap.size #[.int .i64 T0.step, .int .i64 T0.phase, .bool T0.fresh, .slice a0 T0.vals.length c0, .slice b0 T0.mail.length d0]) := X0.out.below hb X0.out.lt
  replace X1 : Hid (BX 24 wK13_0 (w.heap.size + 1) #[.int .i64 T1.step, .int .i64 T1.phase, .bool T1.fresh, .slice a1 T1.vals.length c1, .slice b1 T1.mail.length d1]) := X1.out.below hb X1.out.lt
  replace X2 : Hid (BX 24 wK13_0 (w.heap.size + 2) #[.int .i64 T2.step, .int .i64 T2.phase, .bool T2.fresh, .slice a2 T2.vals.length c2, .slice b2 T2.mail.length d2]) := X2.out.below hb X2.out.lt
  replace B : Hid (BX 28 wK13_0 q4 #[.int .i64 (keptS T1).step, .int .i64 (keptS T1).phase, .bool (keptS T1).fresh, .slice Ea (keptS T1).vals.length Ec, .slice Eb (keptS T1).mail.length Ed]) := B.out.below hb B.out.lt
  replace CV : Hid (wK13_0.ownsRow w.heap.size 53 2 (.slice Ca (keptS T2).vals.length Cc) (keptS T2).vals.length ((keptS T2).vals.flatMap encM)) := own_below CV.out hb (Nat.le_refl _)
  replace CM : Hid (wK13_0.ownsRow w.heap.size 62 2 (.slice Cb (keptS T2).mail.length Cd) (keptS T2).mail.length ((keptS T2).mail.flatMap encM)) := own_below CM.out hb (Nat.le_refl _)
  replace C : Hid (BX 28 wK13_0 q5 #[.int .i64 (keptS T2).step, .int .i64 (keptS T2).phase, .bool (keptS T2).fresh, .slice Ca (keptS T2).vals.length Cc, .slice Cb (keptS T2).mail.length Cd]) := C.out.below hb C.out.lt
  replace BV : Hid (wK13_0.ownsRow w.heap.size 53 2 (.slice Ea (keptS T1).vals.length Ec) (keptS T1).vals.length ((keptS T1).vals.flatMap encM)) := own_below BV.out hb (Nat.le_refl _)
  replace BM : Hid (wK13_0.ownsRow w.heap.size 62 2 (.slice Eb (keptS T1).mail.length Ed) (keptS T1).mail.length ((keptS T1).mail.flatMap encM)) := own_below BM.out hb (Nat.le_refl _)
  have K0V : Hid (wK13_0.ownsRow w.heap.size 53 2 (.slice K0a (keptS T2).vals.length K0c) (keptS T2).vals.length ((keptS T2).vals.flatMap encM)) := own_lower ho1 hle
  have K0M : Hid (wK13_0.ownsRow w.heap.size 62 2 (.slice K0b (keptS T2).mail.length K0d) (keptS T2).mail.length ((keptS T2).mail.flatMap encM)) := own_lower ho2 hle
  clear ho1 ho2 hb hle
  refine ⟨KS.out _ wK13_0_b, ?_⟩
  simp only [Act.put, List.setIfInBounds_toArray, List.set_cons_zero, List.set_cons_succ]
  refine oneHW (i := 18) rfl (by kernel_rfl) (by rfl) (call_gets (R := fun v w' => v = .bool true ∧ Below wK13_0.heap.size wK13_0 w') (d := 138) (f := 14) (xs := #[.tmp 135, .tmp 137]) (ats := #[28, 28]) rfl rfl eS (vs := #[.agg #[.int .i64 (keptS T2).step, .int .i64 (keptS T2).phase, .bool (keptS T2).fresh, .slice Ca (keptS T2).vals.length Cc, .slice Cb (keptS T2).mail.length Cd], .agg #[.int .i64 (keptS T2).step, .int .i64 (keptS T2).phase, .bool (keptS T2).fresh, .slice K0a (keptS T2).vals.length K0c, .slice K0b (keptS T2).mail.length K0d]]) (by simp [Act.eval]) ((CT.out _ (keptS T2) (keptS T2) _ _ _ _ (RowK.own encM_len CV.out) (RowK.own encM_len CM.out) (RowK.own encM_len K0V.out) (RowK.own encM_len K0M.out)).mono fun e w' h => by obtain ⟨r, h1, h2, h3⟩ := h; obtain rfl : r = true := h2 rfl; exact ⟨_, h1, rfl, h3⟩) ?_)
  rintro v wS13_0 ⟨rfl, hb⟩
  have wS13_0_b : Below w12s.heap.size w12s wS13_0 := (wK13_0_b).trans (hb.mono (Below.size (wK13_0_b)))
  replace LB : Hid (Below w.heap.size w wS13_0) := LB.out.trans (hb.mono LB.out.size)
  replace X0 : Hid (BX 24 wS13_0 w.heap.size #[.int .i64 T0.step, .int .i64 T0.phase, .bool T0.fresh, .slice a0 T0.vals.length c0, .slice b0 T0.mail.length d0]) := X0.out.below hb X0.out.lt
  replace X1 : Hid (BX 24 wS13_0 (w.heap.size + 1) #[.int .i64 T1.step, .int .i64 T1.phase, .bool T1.fresh, .slice a1 T1.vals.length c1, .slice b1 T1.mail.length d1]) := X1.out.below hb X1.out.lt
  replace X2 : Hid (BX 24 wS13_0 (w.heap.size + 2) #[.int .i64 T2.step, .int .i64 T2.phase, .bool T2.fresh, .slice a2 T2.vals.length c2, .slice b2 T2.mail.length d2]) := X2.out.below hb X2.out.lt
  replace B : Hid (BX 28 wS13_0 q4 #[.int .i64 (keptS T1).step, .int .i64 (keptS T1).phase, .bool (keptS T1).fresh, .slice Ea (keptS T1).vals.length Ec, .slice Eb (keptS T1).mail.length Ed]) := B.out.below hb B.out.lt
  replace CV : Hid (wS13_0.ownsRow w.heap.size 53 2 (.slice Ca (keptS T2).vals.length Cc) (keptS T2).vals.length ((keptS T2).vals.flatMap encM)) := own_below CV.out hb (Nat.le_refl _)
  replace CM : Hid (wS13_0.ownsRow w.heap.size 62 2 (.slice Cb (keptS T2).mail.length Cd) (keptS T2).mail.length ((keptS T2).mail.flatMap encM)) := own_below CM.out hb (Nat.le_refl _)
  replace C : Hid (BX 28 wS13_0 q5 #[.int .i64 (keptS T2).step, .int .i64 (keptS T2).phase, .bool (keptS T2).fresh, .slice Ca (keptS T2).vals.length Cc, .slice Cb (keptS T2).mail.length Cd]) := C.out.below hb C.out.lt
  replace BV : Hid (wS13_0.ownsRow w.heap.size 53 2 (.slice Ea (keptS T1).vals.length Ec) (keptS T1).vals.length ((keptS T1).vals.flatMap encM)) := own_below BV.out hb (Nat.le_refl _)
  replace BM : Hid (wS13_0.ownsRow w.heap.size 62 2 (.slice Eb (keptS T1).mail.length Ed) (keptS T1).mail.length ((keptS T1).mail.flatMap encM)) := own_below BM.out hb (Nat.le_refl _)
  replace K0V : Hid (wS13_0.ownsRow w.heap.size 53 2 (.slice K0a (keptS T2).vals.length K0c) (keptS T2).vals.length ((keptS T2).vals.flatMap encM)) := own_below K0V.out hb (Nat.le_refl _)
  replace K0M : Hid (wS13_0.ownsRow w.heap.size 62 2 (.slice K0b (keptS T2).mail.length K0d) (keptS T2).mail.length ((keptS T2).mail.flatMap encM)) := own_below K0M.out hb (Nat.le_refl _)
  clear hb
  clear K0V
  clear K0M
  refine ⟨KS.out _ wS13_0_b, ?_⟩
  simp only [Act.put, List.setIfInBounds_toArray, List.set_cons_zero, List.set_cons_succ]
  refine takeH (i := 19) (v := .bool true) (d := 139) rfl rfl (by kernel_rfl) (by kernel_rfl) (by kernel_rfl) (fun _ _ _ h => h) (by rfl) (fun V hV => by have _ := hV; go_simp) (KS.out _ wS13_0_b) ?_
  simp only [Act.put, List.setIfInBounds_toArray, List.set_cons_zero, List.set_cons_succ]
  refine takeH (i := 20) (v := .bool true) (d := 140) rfl rfl (by kernel_rfl) (by kernel_rfl) (by kernel_rfl) (fun _ _ _ h => h) (by rfl) (fun V hV => by have _ := hV; go_simp) (KS.out _ wS13_0_b) ?_
  simp only [Act.put, List.setIfInBounds_toArray, List.set_cons_zero, List.set_cons_succ]
  refine takeH (i := 21) (v := .agg #[.int .i64 (keptS T1).step, .int .i64 (keptS T1).phase, .bool (keptS T1).fresh, .slice Ea (keptS T1).vals.length Ec, .slice Eb (keptS T1).mail.length Ed]) (d := 141) rfl rfl (by kernel_rfl) (by kernel_rfl) (by kernel_rfl) (fun _ _ _ h => h) (by rfl) (fun V hV => by have u0 := (hV.2.1).cell 0; have u1 := (hV.2.1).cell 1; have u2 := (hV.2.1).cell 2; have u3 := (hV.2.1).cell 3; have u4 := (hV.2.1).cell 4; simp at u0 u1 u2 u3 u4; go_simp) (KS.out _ wS13_0_b) ?_
  simp only [Act.put, List.setIfInBounds_toArray, List.set_cons_zero, List.set_cons_succ]
  refine takeH (i := 22) (v := .agg #[.int .i64 T1.step, .int .i64 T1.phase, .bool T1.fresh, .slice a1 T1.vals.length c1, .slice b1 T1.mail.length d1]) (d := 142) rfl rfl (by kernel_rfl) (by kernel_rfl) (by kernel_rfl) (fun _ _ _ h => h) (by rfl) (fun V hV => by have u0 := (hV.2.2.2).cell 0; have u1 := (hV.2.2.2).cell 1; have u2 := (hV.2.2.2).cell 2; have u3 := (hV.2.2.2).cell 3; have u4 := (hV.2.2.2).cell 4; simp at u0 u1 u2 u3 u4; go_simp) (KS.out _ wS13_0_b) ?_
  simp only [Act.put, List.setIfInBounds_toArray, List.set_cons_zero, List.set_cons_succ]
  refine oneHW (i := 23) rfl (by kernel_rfl) (by rfl) (call_gets (R := fun v w' => ∃ v1 v2, v = .agg #[.int .i64 (keptS T1).step, .int .i64 (keptS T1).phase, .bool (keptS T1).fresh, v1, v2] ∧ w'.ownsRow wS13_0.heap.size 53 2 v1 (keptS T1).vals.length ((keptS T1).vals.flatMap encM) ∧ w'.ownsRow wS13_0.heap.size 62 2 v2 (keptS T1).mail.length ((keptS T1).mail.flatMap encM) ∧ Below wS13_0.heap.size wS13_0 w') (d := 143) (f := 6) (xs := #[.tmp 142]) (ats := #[24]) rfl rfl eA (vs := #[.agg #[.int .i64 T1.step, .int .i64 T1.phase, .bool T1.fresh, .slice a1 T1.vals.length c1, .slice b1 T1.mail.length d1]]) (by simp [Act.eval]) ((CK1.out _ LB.out).mono fun e w' h => by obtain ⟨v1, v2, h1, h2, h3, h4⟩ := h; exact ⟨_, h1, v1, v2, rfl, h2, h3, h4⟩) ?_)
  rintro v wK13_1 ⟨v1, v2, rfl, ho1, ho2, hb⟩
  have wK13_1_b : Below w12s.heap.size w12s wK13_1 := (wS13_0_b).trans (hb.mono (Below.size (wS13_0_b)))
  obtain ⟨K1a, K1c, rfl⟩ := (RowK.own encM_len ho1 : MlR wK13_1 v1 (keptS T1).vals).shape
  obtain ⟨K1b, K1d, rfl⟩ := (RowK.own encM_len ho2 : MlR wK13_1 v2 (keptS T1).mail).shape
  have hle := LB.out.size
  replace LB : Hid (Below w.heap.size w wK13_1) := LB.out.trans (hb.mono LB.out.size)
  replace X0 : Hid (BX 24 wK13_1 w.heap.size #[.int .i64 T0.step, .int .i64 T0.phase, .bool T0.fresh, .slice a0 T0.vals.length c0, .slice b0 T0.mail.length d0]) := X0.out.below hb X0.out.lt
  replace X1 : Hid (BX 24 wK13_1 (w.heap.size + 1) #[.int .i64 T1.step, .int .i64 T1.phase, .bool T1.fresh, .slice a1 T1.vals.length c1, .slice b1 T1.mail.length d1]) := X1.out.below hb X1.out.lt
  replace X2 : Hid (BX 24 wK13_1 (w.heap.size + 2) #[.int .i64 T2.step, .int .i64 T2.phase, .bool T2.fresh, .slice a2 T2.vals.length c2, .slice b2 T2.mail.length d2]) := X2.out.below hb X2.out.lt
  replace B : Hid (BX 28 wK13_1 q4 #[.int .i64 (keptS T1).step, .int .i64 (keptS T1).phase, .bool (keptS T1).fresh, .slice Ea (keptS T1).vals.length Ec, .slice Eb (keptS T1).mail.length Ed]) := B.out.below hb B.out.lt
  replace CV : Hid (wK13_1.ownsRow w.heap.size 53 2 (.slice Ca (keptS T2).vals.length Cc) (keptS T2).vals.length ((keptS T2).vals.flatMap encM)) := own_below CV.out hb (Nat.le_refl _)
  replace CM : Hid (wK13_1.ownsRow w.heap.size 62 2 (.slice Cb (keptS T2).mail.length Cd) (keptS T2).mail.length ((keptS T2).mail.flatMap encM)) := own_below CM.out hb (Nat.le_refl _)
  replace C : Hid (BX 28 wK13_1 q5 #[.int .i64 (keptS T2).step, .int .i64 (keptS T2).phase, .bool (keptS T2).fresh, .slice Ca (keptS T2).vals.length Cc, .slice Cb (keptS T2).mail.length Cd]) := C.out.below hb C.out.lt
  replace BV : Hid (wK13_1.ownsRow w.heap.size 53 2 (.slice Ea (keptS T1).vals.length Ec) (keptS T1).vals.length ((keptS T1).vals.flatMap encM)) := own_below BV.out hb (Nat.le_refl _)
  replace BM : Hid (wK13_1.ownsRow w.heap.size 62 2 (.slice Eb (keptS T1).mail.length Ed) (keptS T1).mail.length ((keptS T1).mail.flatMap encM)) := own_below BM.out hb (Nat.le_refl _)
  have K1V : Hid (wK13_1.ownsRow w.heap.size 53 2 (.slice K1a (keptS T1).vals.length K1c) (keptS T1).vals.length ((keptS T1).vals.flatMap encM)) := own_lower ho1 hle
  have K1M : Hid (wK13_1.ownsRow w.heap.size 62 2 (.slice K1b (keptS T1).mail.length K1d) (keptS T1).mail.length ((keptS T1).mail.flatMap encM)) := own_lower ho2 hle
  clear ho1 ho2 hb hle
  refine ⟨KS.out _ wK13_1_b, ?_⟩
  simp only [Act.put, List.setIfInBounds_toArray, List.set_cons_zero, List.set_cons_succ]
  refine oneHW (i := 24) rfl (by kernel_rfl) (by rfl) (call_gets (R := fun v w' => v = .bool true ∧ Below wK13_1.heap.size wK13_1 w') (d := 144) (f := 14) (xs := #[.tmp 141, .tmp 143]) (ats := #[28, 28]) rfl rfl eS (vs := #[.agg #[.int .i64 (keptS T1).step, .int .i64 (keptS T1).phase, .bool (keptS T1).fresh, .slice Ea (keptS T1).vals.length Ec, .slice Eb (keptS T1).mail.length Ed], .agg #[.int .i64 (keptS T1).step, .int .i64 (keptS T1).phase, .bool (keptS T1).fresh, .slice K1a (keptS T1).vals.length K1c, .slice K1b (keptS T1).mail.length K1d]]) (by simp [Act.eval]) ((CT.out _ (keptS T1) (keptS T1) _ _ _ _ (RowK.own encM_len BV.out) (RowK.own encM_len BM.out) (RowK.own encM_len K1V.out) (RowK.own encM_len K1M.out)).mono fun e w' h => by obtain ⟨r, h1, h2, h3⟩ := h; obtain rfl : r = true := h2 rfl; exact ⟨_, h1, rfl, h3⟩) ?_)
  rintro v wS13_1 ⟨rfl, hb⟩
  have wS13_1_b : Below w12s.heap.size w12s wS13_1 := (wK13_1_b).trans (hb.mono (Below.size (wK13_1_b)))
  replace LB : Hid (Below w.heap.size w wS13_1) := LB.out.trans (hb.mono LB.out.size)
  replace X0 : Hid (BX 24 wS13_1 w.heap.size #[.int .i64 T0.step, .int .i64 T0.phase, .bool T0.fresh, .slice a0 T0.vals.length c0, .slice b0 T0.mail.length d0]) := X0.out.below hb X0.out.lt
  replace X1 : Hid (BX 24 wS13_1 (w.heap.size + 1) #[.int .i64 T1.step, .int .i64 T1.phase, .bool T1.fresh, .slice a1 T1.vals.length c1, .slice b1 T1.mail.length d1]) := X1.out.below hb X1.out.lt
  replace X2 : Hid (BX 24 wS13_1 (w.heap.size + 2) #[.int .i64 T2.step, .int .i64 T2.phase, .bool T2.fresh, .slice a2 T2.vals.length c2, .slice b2 T2.mail.length d2]) := X2.out.below hb X2.out.lt
  replace B : Hid (BX 28 wS13_1 q4 #[.int .i64 (keptS T1).step, .int .i64 (keptS T1).phase, .bool (keptS T1).fresh, .slice Ea (keptS T1).vals.length Ec, .slice Eb (keptS T1).mail.length Ed]) := B.out.below hb B.out.lt
  replace CV : Hid (wS13_1.ownsRow w.heap.size 53 2 (.slice Ca (keptS T2).vals.length Cc) (keptS T2).vals.length ((keptS T2).vals.flatMap encM)) := own_below CV.out hb (Nat.le_refl _)
  replace CM : Hid (wS13_1.ownsRow w.heap.size 62 2 (.slice Cb (keptS T2).mail.length Cd) (keptS T2).mail.length ((keptS T2).mail.flatMap encM)) := own_below CM.out hb (Nat.le_refl _)
  replace C : Hid (BX 28 wS13_1 q5 #[.int .i64 (keptS T2).step, .int .i64 (keptS T2).phase, .bool (keptS T2).fresh, .slice Ca (keptS T2).vals.length Cc, .slice Cb (keptS T2).mail.length Cd]) := C.out.below hb C.out.lt
  replace BV : Hid (wS13_1.ownsRow w.heap.size 53 2 (.slice Ea (keptS T1).vals.length Ec) (keptS T1).vals.length ((keptS T1).vals.flatMap encM)) := own_below BV.out hb (Nat.le_refl _)
  replace BM : Hid (wS13_1.ownsRow w.heap.size 62 2 (.slice Eb (keptS T1).mail.length Ed) (keptS T1).mail.length ((keptS T1).mail.flatMap encM)) := own_below BM.out hb (Nat.le_refl _)
  replace K1V : Hid (wS13_1.ownsRow w.heap.size 53 2 (.slice K1a (keptS T1).vals.length K1c) (keptS T1).vals.length ((keptS T1).vals.flatMap encM)) := own_below K1V.out hb (Nat.le_refl _)
  replace K1M : Hid (wS13_1.ownsRow w.heap.size 62 2 (.slice K1b (keptS T1).mail.length K1d) (keptS T1).mail.length ((keptS T1).mail.flatMap encM)) := own_below K1M.out hb (Nat.le_refl _)
  clear hb
  clear K1V
  clear K1M
  refine ⟨KS.out _ wS13_1_b, ?_⟩
  simp only [Act.put, List.setIfInBounds_toArray, List.set_cons_zero, List.set_cons_succ]
  refine takeH (i := 25) (v := .bool true) (d := 145) rfl rfl (by kernel_rfl) (by kernel_rfl) (by kernel_rfl) (fun _ _ _ h => h) (by rfl) (fun V hV => by have _ := hV; go_simp) (KS.out _ wS13_1_b) ?_
  simp only [Act.put, List.setIfInBounds_toArray, List.set_cons_zero, List.set_cons_succ]
  refine takeH (i := 26) (v := .bool true) (d := 10) rfl rfl (by kernel_rfl) (by kernel_rfl) (by kernel_rfl) (fun _ _ _ h => h) (by rfl) (fun V hV => by have _ := hV; go_simp) (KS.out _ wS13_1_b) ?_
  simp only [Act.put, List.setIfInBounds_toArray, List.set_cons_zero, List.set_cons_succ]
  refine wpAnyH_done (by kernel_rfl) ?_ _
  clear KS BD
  go_wp2_with fail
  go_ret
  exact ⟨rfl, LB.out⟩

set_option maxHeartbeats 400000 in
set_option maxRecDepth 100000 in
theorem lifted (os : Os) (started : os.Started) (H : Type) (enc : TypeId × Value → H) :
    ReturnsInHanded {} Tryz.checked os 4 .any (fun w args => (Rows.ckptTornSpec.pre enc Tryz.prog Tryz.f4 Rows.ckptTornRow.domain false w args ∧ laidMetH Tryz.prog Rows.ckptTornRow.laid w) ∧ sizedMet enc Tryz.prog Tryz.f4 (OpenSpec.ofChange Rows.ckptTornSpec) false w args) (Rows.ckptTornSpec.post enc Tryz.prog Tryz.f4 false true false false) := by
  refine returns_laid (C := Tryz.checked) (X := fun w _ => laidMetH Tryz.prog Rows.ckptTornRow.laid w) (fun _ _ _ hh h => h.of_heap hh) own started (by kernel_rfl) Tryz.func4
    (ChangeSpec.witness_shaped (enc := enc) (C := Tryz.checked) (os := os) (X := fun w _ => laidMetH Tryz.prog Rows.ckptTornRow.laid w) false (World.doorLaid Tryz.prog 400 os) #[.agg #[.int .i64 0, .int .i64 0, .bool false, .slice none 0 0, .slice none 0 0], .agg #[.int .i64 0, .int .i64 0, .bool false, .slice none 0 0, .slice none 0 0], .agg #[.int .i64 0, .int .i64 0, .bool false, .slice none 0 0, .slice none 0 0], .int .i64 0, .int .i64 0] 8 rfl (World.shaped_of_RefB (by kernel_rfl) (by kernel_rfl)) (by kernel_rfl) (by kernel_rfl) (by kernel_rfl) (ckptTorn_met os _)) ?_
  intro W base args ds gs before hval0 hW _ hsz0 hsh hL _
  have hval : ∀ (j : Nat) t v, Tryz.f4.params[j]? = some t → args[j]? = some v → Value.okWide Tryz.prog W .any base t v := hval0
  have hW' := hW
  obtain ⟨p, q, hA0, hV, rfl, hfz, hnd⟩ := hW
  have hA : DataW.TrodAll enc Tryz.prog W 0 (fun _ => true) true Tryz.f4.params.toList args.toList ds p := hA0
  have hsz : (DataW.weightsEach Tryz.prog (Tryz.f4.params.toList ++ Rows.ckptTornSpec.plain.varTypes Tryz.prog) (ds ++ gs)).all (fun x => decide (x ≤ reachBytes)) = true := hsz0
  rw [Tryz.params4] at hA hval hsz
  obtain ⟨v0, vs0, d0, ds0, p0, q0, hargs, rfl, rfl, h0, r0⟩ := trodAll_cons hA
  obtain ⟨v1, vs1, d1, ds1, p1, q1, rfl, rfl, rfl, h1, r1⟩ := trodAll_cons r0
  obtain ⟨v2, vs2, d2, ds2, p2, q2, rfl, rfl, rfl, h2, r2⟩ := trodAll_cons r1
  obtain ⟨v3, vs3, d3, ds3, p3, q3, rfl, rfl, rfl, h3, r3⟩ := trodAll_cons r2
  obtain ⟨v4, vs4, d4, ds4, p4, q4, rfl, rfl, rfl, h4, r4⟩ := trodAll_cons r3
  obtain ⟨rfl, rfl, rfl⟩ := trodAll_nil r4
  obtain rfl : args = #[v0, v1, v2, v3, v4] := by cases args; simp_all
  obtain ⟨rfl, rfl⟩ := trodVars_none hV
  have k0 := h0
  have lt0 : ∀ x ∈ p0, x.block < W.heap.size := by obtain ⟨m, hm⟩ := k0; exact DataW.trod_lt m _ _ _ hm
  have hw0 : ∀ m ∈ d0.weights Tryz.prog 24, m ≤ reachBytes := fun m hm => by simpa using List.all_eq_true.1 hsz _ (DataW.weights_mem_each (j := 0) (t := 24) rfl rfl m hm)
  have k1 := h1
  have lt1 : ∀ x ∈ p1, x.block < W.heap.size := by obtain ⟨m, hm⟩ := k1; exact DataW.trod_lt m _ _ _ hm
  have hw1 : ∀ m ∈ d1.weights Tryz.prog 24, m ≤ reachBytes := fun m hm => by simpa using List.all_eq_true.1 hsz _ (DataW.weights_mem_each (j := 1) (t := 24) rfl rfl m hm)
  have k2 := h2
  have lt2 : ∀ x ∈ p2, x.block < W.heap.size := by obtain ⟨m, hm⟩ := k2; exact DataW.trod_lt m _ _ _ hm
  have hw2 : ∀ m ∈ d2.weights Tryz.prog 24, m ≤ reachBytes := fun m hm => by simpa using List.all_eq_true.1 hsz _ (DataW.weights_mem_each (j := 2) (t := 24) rfl rfl m hm)
  have k3 := h3
  have lt3 : ∀ x ∈ p3, x.block < W.heap.size := by obtain ⟨m, hm⟩ := k3; exact DataW.trod_lt m _ _ _ hm
  have k4 := h4
  have lt4 : ∀ x ∈ p4, x.block < W.heap.size := by obtain ⟨m, hm⟩ := k4; exact DataW.trod_lt m _ _ _ hm
  obtain ⟨T0, vv0, vm0, rfl, hN0, hV0, hM0, hB0⟩ := open_kept (okWide_struct Tryz.underlying24 (hval 0 24 v0 rfl rfl)) h0 hw0
  obtain ⟨T1, vv1, vm1, rfl, hN1, hV1, hM1, hB1⟩ := open_kept (okWide_struct Tryz.underlying24 (hval 1 24 v1 rfl rfl)) h1 hw1
  obtain ⟨T2, vv2, vm2, rfl, hN2, hV2, hM2, hB2⟩ := open_kept (okWide_struct Tryz.underlying24 (hval 2 24 v2 rfl rfl)) h2 hw2
  obtain ⟨n3, rfl, _, _, wf3⟩ := open_int Tryz.underlying3 (hval 3 3 v3 rfl rfl) h3
  have hI3 := bounds_i64 wf3
  obtain ⟨n4, rfl, _, _, wf4⟩ := open_int Tryz.underlying3 (hval 4 3 v4 rfl rfl) h4
  have hI4 := bounds_i64 wf4
  clear hA0 hval0
  refine (walk T0 vv0 vm0 T1 vv1 vm1 T2 vv2 vm2 n3 n4 W hN0 hV0 hM0 hB0 hN1 hV1 hM1 hB1 hN2 hV2 hM2 hB2 hI3 hI4 (no_facts hL hsh)).mono fun e W' ⟨he, bel⟩ => ?_
  subst he
  exact ⟨_, rfl, _, _, _, [], _, [], hW', trodAll_mk1 (shut_bool Tryz.underlying4 _), (trodAll_cons_mk (Below.trod laidOut (by kernel_rfl) (of_decide_eq_true (by kernel_rfl)) k0 bel lt0) (trodAll_cons_mk (Below.trod laidOut (by kernel_rfl) (of_decide_eq_true (by kernel_rfl)) k1 bel lt1) (trodAll_cons_mk (Below.trod laidOut (by kernel_rfl) (of_decide_eq_true (by kernel_rfl)) k2 bel lt2) (trodAll_cons_mk (Below.trod laidOut (by kernel_rfl) (of_decide_eq_true (by kernel_rfl)) k3 bel lt3) (trodAll_cons_mk (Below.trod laidOut (by kernel_rfl) (of_decide_eq_true (by kernel_rfl)) k4 bel lt4) trodAll_mk0))))), rfl, bel.frame _, fun h => by cases h⟩

theorem over : Rows.ckptTornRow.holds Tryz.pinned (OpenSpec.ofChange Rows.ckptTornSpec) :=
  OpenClaim.holds_of_wide 4 Tryz.f4 rfl rfl rfl rfl rfl rfl rfl ⟨rfl, rfl, rfl, rfl, rfl⟩ rfl rfl rfl rfl rfl (by kernel_rfl) Tryz.func4 (by kernel_rfl)
    (of_decide_eq_true (by kernel_rfl)) (by unfold Func.isWrapper; first | (rw [if_pos (by decide +kernel)]; kernel_rfl) | (rw [if_neg (by decide +kernel)]; exact ⟨rfl, rfl⟩))
    (fun os started H enc _ => lifted os started H enc)

/-- The card: what the row lists is tied to the program's text. -/
theorem proved : Rows.CkptTornCardSaid :=
  Claim7.holds_tied_plain_at .later [] [.data, .data, .data] true (true, "7589c64c7087c3bf6730f2df7ba050d35ac8eda433249b14bcc41f2a7d036b6d") false
    over (fun _ h => by cases h) (by kernel_rfl) (fun _ h => by cases h) ckptTorn_row_tie rfl ⟨rfl, rfl⟩ (by kernel_rfl) rfl
    (fun f fn hf hfn => by
      obtain rfl : f = 4 := Option.some.inj ((show Tryz.prog.funcNamed Rows.ckptTornRow.func = some 4 by kernel_rfl).symm.trans hf) |>.symm
      obtain rfl : fn = Tryz.f4 := (Option.some.inj (Tryz.func4.symm.trans hfn)).symm
      exact ⟨by kernel_rfl, fun j t ht => by
        rw [Tryz.params4] at ht
        rcases j with _ | j
        · obtain rfl : t = 24 := by simpa using ht.symm
          exact (show Tryz.prog.wantsStandIn 24 = false by kernel_rfl)
        rcases j with _ | j
        · obtain rfl : t = 24 := by simpa using ht.symm
          exact (show Tryz.prog.wantsStandIn 24 = false by kernel_rfl)
        rcases j with _ | j
        · obtain rfl : t = 24 := by simpa using ht.symm
          exact (show Tryz.prog.wantsStandIn 24 = false by kernel_rfl)
        rcases j with _ | j
        · obtain rfl : t = 3 := by simpa using ht.symm
          exact (show Tryz.prog.wantsStandIn 3 = false by kernel_rfl)
        rcases j with _ | j
        · obtain rfl : t = 3 := by simpa using ht.symm
          exact (show Tryz.prog.wantsStandIn 3 = false by kernel_rfl)
        simp at ht⟩)
    (by kernel_rfl)
#print axioms proved
end Go.Proofs.YtkgdenbabafeoaaGreatDoor.ckptTorn
