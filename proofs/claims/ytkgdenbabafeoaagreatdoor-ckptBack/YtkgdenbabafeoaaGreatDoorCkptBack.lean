/-
  For all raw numbers: what is encoded is decoded, and what is put and sealed is loaded behind whatever crash (the law CkptBack returns true, and its arguments read as before). The package variables that the row lists read as their initialisers lay them, which the card ties to the text; no other condition.
-/
import Derived.Test.YtkgdenbabafeoaaGreatDoorCkptBackPartB
import Derived.Test.YtkgdenbabafeoaaGreatDoorCkptBackPartA
import Derived.Test.YtkgdenbabafeoaaGreatDoorTie
import Derived.Test.YtkgdenbabafeoaaGreatDoorCards
import Derived.WalkKit
import Derived.ProofKit
import Derived.OpenShut
import Derived.ShutString
import Derived.SizedLaws
import Derived.ChangeOld
import Derived.Below
import Derived.SevenTiedAt
namespace Go.Proofs.YtkgdenbabafeoaaGreatDoor.ckptBack
set_option maxRecDepth 100000
open Go.ChangeShapes Go.WideShapes Go.ChangeAt Go.RowKit

theorem own : ownKnob Tryz.prog.godebug = none := by kernel_rfl
theorem laidOut : laidOutB Tryz.prog = true := by kernel_rfl

set_option maxHeartbeats 16000000 in
set_option maxRecDepth 100000 in
theorem walk (T0 : SvS) (vv0 vm0 : Value) (n1 : Int) (n2 : Int) (w : World) (hN0 : i64B T0.step ∧ i64B T0.phase) (hV0 : MlR w vv0 T0.vals) (hM0 : MlR w vm0 T0.mail) (hB0 : SavB T0) (hI1 : -9223372036854775808 ≤ n1 ∧ n1 ≤ 9223372036854775807) (hI2 : -9223372036854775808 ≤ n2 ∧ n2 ≤ 9223372036854775807) (hF : NoF w) :
    Calls Tryz.prog 3 #[.agg #[.int .i64 T0.step, .int .i64 T0.phase, .bool T0.fresh, vv0, vm0], .int .i64 n1, .int .i64 n2] w fun e w' => e = .returned (.bool true) ∧ Below w.heap.size w w' := by
  have _u := hN0
  clear _u
  have _u := hV0
  clear _u
  have _u := hM0
  clear _u
  have _u := hB0
  clear _u
  have _u := hI1
  clear _u
  have _u := hI2
  clear _u
  have _u := hF
  clear _u hF
  have HV0 : Hid (MlR w vv0 T0.vals) := hV0
  have HM0 : Hid (MlR w vm0 T0.mail) := hM0
  obtain ⟨a0, c0, rfl⟩ := hV0.shape
  obtain ⟨b0, d0, rfl⟩ := hM0.shape
  have CK0 : Hid (∀ X, Below w.heap.size w X → Calls Tryz.prog 6 #[.agg #[.int .i64 T0.step, .int .i64 T0.phase, .bool T0.fresh, .slice a0 T0.vals.length c0, .slice b0 T0.mail.length d0]] X (SvkP X (keptS T0))) := fun X h => kept_any T0 _ _ X (HV0.out.below h (Nat.le_refl _)) (HM0.out.below h (Nat.le_refl _)) hN0 hB0
  have hl0 := kb_len T0
  have hcn0 : Hid ((keptS T0).mail.length = min T0.mail.length 20) := kept_count T0
  have HKB0 : Hid (∀ m ∈ (keptS T0).mail, mlB m) := kept_mlB T0
  have HBY0 : Hid (∀ y ∈ kb T0, 0 ≤ y ∧ y ≤ 255) := kb_bytes T0
  have HEN0 : Hid (encS (keptS T0) = (kb T0, 0)) := kept_enc T0
  obtain ⟨p, hp⟩ : ∃ p, pickF n1 2 = p := ⟨_, rfl⟩
  have hp2 : p = 0 ∨ p = 1 := by have := pickF_bd n1 2 (by decide); omega
  have CP : Hid (∀ X, Calls Tryz.prog 7 #[.int .i64 n1, .int .i64 2] X fun e w' => e = .returned (.int .i64 p) ∧ w' = X) := fun X => by rw [← hp]; exact picked_any _ _ X hI1.1 hI1.2 (by decide) (by decide)
  obtain ⟨kp, hkp⟩ : ∃ p, pickF n2 200 = p := ⟨_, rfl⟩
  have hk2 : 0 ≤ kp ∧ kp < 200 := by have := pickF_bd n2 200 (by decide); omega
  have CQ : Hid (∀ X, Calls Tryz.prog 7 #[.int .i64 n2, .int .i64 200] X fun e w' => e = .returned (.int .i64 kp) ∧ w' = X) := fun X => by rw [← hkp]; exact picked_any _ _ X hI2.1 hI2.2 (by decide) (by decide)
  have CE0 : Hid (∀ X v1 v2, MlR X v1 (keptS T0).vals → MlR X v2 (keptS T0).mail → Calls Tryz.prog 8 #[.agg #[.int .i64 (keptS T0).step, .int .i64 (keptS T0).phase, .bool (keptS T0).fresh, v1, v2]] X (BytP2 X (kb T0, 0))) := fun X v1 v2 h1 h2 => by have h := sEnc_any (keptS T0) v1 v2 X h1 h2 HKB0.out; rwa [HEN0.out] at h
  have CD0 : Hid (∀ X v, Reads .u8 X v (kb T0) → Calls Tryz.prog 9 #[v] X (SvdP X ((keptS T0), 0))) := fun X v h1 => by have h := ckDecode_any v _ X h1 HBY0.out; rwa [kb_dec] at h
  have CPU : Hid (∀ X u v1 v2, DiskR X u ([]) → MlR X v1 (keptS T0).vals → MlR X v2 (keptS T0).mail → Calls Tryz.prog 10 #[.agg #[u], .agg #[.int .i64 (keptS T0).step, .int .i64 (keptS T0).phase, .bool (keptS T0).fresh, v1, v2]] X (DskP X ([fN (kb T0)], 0))) := fun X u v1 v2 h1 h2 h3 => by have h := ckPut_any u ([]) (keptS T0) v1 v2 X h1 (good_nil) h2 h3 HKB0.out; rwa [HEN0.out, put_0 hl0.2] at h
  have CSE : Hid (∀ X u, DiskR X u ([fN (kb T0)]) → Calls Tryz.prog 11 #[.agg #[u], .int .i64 p] X (DskP X ([fS p (kb T0)], 0))) := fun X u h1 => by have h := ckSeal_any u ([fN (kb T0)]) p X h1 (good1 (good_fN hl0.2 HBY0.out)); rwa [seal_1 hl0.2 hp2] at h
  have CCR : Hid (∀ X u, DiskR X u ([fS p (kb T0)]) → Calls Tryz.prog 12 #[.agg #[u], .int .i64 kp] X (DskP X ([fS p (kb T0)], 0))) := fun X u h1 => by have h := diskCrash_any u ([fS p (kb T0)]) kp X h1 (good1 (good_fS (n := p) hl0.2 HBY0.out)) (by omega); rw [crash_1 hl0.2 hk2.1 hp2] at h; exact h
  have CLO : Hid (∀ X u, DiskR X u ([fS p (kb T0)]) → Calls Tryz.prog 13 #[.agg #[u], .int .i64 p] X (SvdP X (keptS T0, 0))) := fun X u h1 => by have h := ckLoad_any u ([fS p (kb T0)]) p X h1 (good1 (good_fS (n := p) hl0.2 HBY0.out)); rwa [load_1 hp2] at h
  have CT : Hid (∀ X (s t : SvS) u1 u2 v1 v2, MlR X u1 s.vals → MlR X u2 s.mail → MlR X v1 t.vals → MlR X v2 t.mail → Calls Tryz.prog 14 #[.agg #[.int .i64 s.step, .int .i64 s.phase, .bool s.fresh, u1, u2], .agg #[.int .i64 t.step, .int .i64 t.phase, .bool t.fresh, v1, v2]] X fun e w' => ∃ r, e = .returned (.bool r) ∧ (s = t → r = true) ∧ Below X.heap.size X w') := fun X s t u1 u2 v1 v2 h1 h2 h3 h4 => sameSavedK_any s t u1 v1 u2 v2 X h1 h3 h2 h4
  have h8 : 8 < (kb T0).length := hl0.1
  have hi8 : (8 : Int) < ((kb T0).length : Int) := by omega
  clear hI1 hI2 hp hkp hV0 hM0 hN0 hB0 HEN0 HKB0 hp2 hk2
  generalize kb T0 = kb0 at *
  obtain ⟨W0, hW0⟩ : ∃ W0, W0 = w.alloc (.cells #[.int .i64 T0.step, .int .i64 T0.phase, .bool T0.fresh, .slice a0 T0.vals.length c0, .slice b0 T0.mail.length d0] 24) := ⟨_, rfl⟩
  have LB : Hid (Below w.heap.size w W0) := by show Below _ _ _; rw [hW0]; exact below_alloc _ _
  have X0 : Hid (BX 24 W0 w.heap.size #[.int .i64 T0.step, .int .i64 T0.phase, .bool T0.fresh, .slice a0 T0.vals.length c0, .slice b0 T0.mail.length d0]) := by show BX _ _ _ _; rw [hW0]; exact BX.new _ _ _
  go_enter Tryz.func3, Tryz.ntmps3
  go_upto_region 1 with fail
  rw [← hW0]
  clear hW0
  have z0_0 : W0.cell? ⟨w.heap.size, 0, none⟩ = some (.int .i64 T0.step) := X0.out.cell 0
  have z0_1 : W0.cell? ⟨w.heap.size, 1, none⟩ = some (.int .i64 T0.phase) := X0.out.cell 1
  have z0_2 : W0.cell? ⟨w.heap.size, 2, none⟩ = some (.bool T0.fresh) := X0.out.cell 2
  have z0_3 : W0.cell? ⟨w.heap.size, 3, none⟩ = some (.slice a0 T0.vals.length c0) := X0.out.cell 3
  have z0_4 : W0.cell? ⟨w.heap.size, 4, none⟩ = some (.slice b0 T0.mail.length d0) := X0.out.cell 4
  go_wp2_with fail
  refine (CK0.out _ LB.out).mono ?_
  rintro e w1 ⟨v1, v2, rfl, ho1, ho2, hb⟩
  obtain ⟨Sa, Sc, rfl⟩ := (RowK.own encM_len ho1 : MlR w1 v1 (keptS T0).vals).shape
  obtain ⟨Sb, Sd, rfl⟩ := (RowK.own encM_len ho2 : MlR w1 v2 (keptS T0).mail).shape
  have hle := LB.out.size
  replace LB : Hid (Below w.heap.size w w1) := LB.out.trans (hb.mono LB.out.size)
  replace X0 : Hid (BX 24 w1 w.heap.size #[.int .i64 T0.step, .int .i64 T0.phase, .bool T0.fresh, .slice a0 T0.vals.length c0, .slice b0 T0.mail.length d0]) := X0.out.below hb X0.out.lt
  have SV : Hid (w1.ownsRow w.heap.size 53 2 (.slice Sa (keptS T0).vals.length Sc) (keptS T0).vals.length ((keptS T0).vals.flatMap encM)) := own_lower ho1 hle
  have SM : Hid (w1.ownsRow w.heap.size 62 2 (.slice Sb (keptS T0).mail.length Sd) (keptS T0).mail.length ((keptS T0).mail.flatMap encM)) := own_lower ho2 hle
  clear ho1 ho2 hb hle z0_0 z0_1 z0_2 z0_3 z0_4
  have L9 := LB.out.size
  have M9_X0 := X0.out.lt
  replace LB : Hid (Below w.heap.size w (w1.alloc (.cells #[.int .i64 (keptS T0).step, .int .i64 (keptS T0).phase, .bool (keptS T0).fresh, .slice Sa (keptS T0).vals.length Sc, .slice Sb (keptS T0).mail.length Sd] 28))) := LB.out.alloc LB.out.size _
  replace X0 : Hid (BX 24 (w1.alloc (.cells #[.int .i64 (keptS T0).step, .int .i64 (keptS T0).phase, .bool (keptS T0).fresh, .slice Sa (keptS T0).vals.length Sc, .slice Sb (keptS T0).mail.length Sd] 28)) w.heap.size #[.int .i64 T0.step, .int .i64 T0.phase, .bool T0.fresh, .slice a0 T0.vals.length c0, .slice b0 T0.mail.length d0]) := X0.out.below (below_alloc _ _) X0.out.lt
  replace SV : Hid ((w1.alloc (.cells #[.int .i64 (keptS T0).step, .int .i64 (keptS T0).phase, .bool (keptS T0).fresh, .slice Sa (keptS T0).vals.length Sc, .slice Sb (keptS T0).mail.length Sd] 28)).ownsRow w.heap.size 53 2 (.slice Sa (keptS T0).vals.length Sc) (keptS T0).vals.length ((keptS T0).vals.flatMap encM)) := own_below SV.out (below_alloc _ _) (Nat.le_refl _)
  replace SM : Hid ((w1.alloc (.cells #[.int .i64 (keptS T0).step, .int .i64 (keptS T0).phase, .bool (keptS T0).fresh, .slice Sa (keptS T0).vals.length Sc, .slice Sb (keptS T0).mail.length Sd] 28)).ownsRow w.heap.size 62 2 (.slice Sb (keptS T0).mail.length Sd) (keptS T0).mail.length ((keptS T0).mail.flatMap encM)) := own_below SM.out (below_alloc _ _) (Nat.le_refl _)
  have S : Hid (BX 28 (w1.alloc (.cells #[.int .i64 (keptS T0).step, .int .i64 (keptS T0).phase, .bool (keptS T0).fresh, .slice Sa (keptS T0).vals.length Sc, .slice Sb (keptS T0).mail.length Sd] 28)) w1.heap.size #[.int .i64 (keptS T0).step, .int .i64 (keptS T0).phase, .bool (keptS T0).fresh, .slice Sa (keptS T0).vals.length Sc, .slice Sb (keptS T0).mail.length Sd]) := BX.new _ _ _
  have l_q1 : w.heap.size ≤ w1.heap.size := L9
  clear L9
  have n_X0_q1 : w.heap.size < w1.heap.size := M9_X0
  clear M9_X0
  go_upto_region 2 with fail
  generalize w1.alloc (.cells #[.int .i64 (keptS T0).step, .int .i64 (keptS T0).phase, .bool (keptS T0).fresh, .slice Sa (keptS T0).vals.length Sc, .slice Sb (keptS T0).mail.length Sd] 28) = w1n at *
  generalize w1.heap.size = q1 at *
  go_wp2_with fail
  refine (CP.out _).mono ?_
  rintro e w9 ⟨rfl, e9⟩
  have e9' : w1n = w9 := e9.symm
  subst e9'
  clear e9
  have z1_0 : w1n.cell? ⟨q1, 0, none⟩ = some (.int .i64 (keptS T0).step) := S.out.cell 0
  have z1_1 : w1n.cell? ⟨q1, 1, none⟩ = some (.int .i64 (keptS T0).phase) := S.out.cell 1
  have z1_2 : w1n.cell? ⟨q1, 2, none⟩ = some (.bool (keptS T0).fresh) := S.out.cell 2
  have z1_3 : w1n.cell? ⟨q1, 3, none⟩ = some (.slice Sa (keptS T0).vals.length Sc) := S.out.cell 3
  have z1_4 : w1n.cell? ⟨q1, 4, none⟩ = some (.slice Sb (keptS T0).mail.length Sd) := S.out.cell 4
  go_wp2_with fail
  refine (CE0.out _ _ _ (RowK.own encM_len SV.out) (RowK.own encM_len SM.out)).mono ?_
  rintro e w3 ⟨v', rfl, ho, hb⟩
  obtain ⟨ba, bn, bc, rfl⟩ : ∃ a n c, v' = .slice a n c := by
    rcases own_cases ho with ⟨h1, _, _⟩ | ⟨g', cap', h1, _⟩
    · exact ⟨_, _, _, h1⟩
    · exact ⟨_, _, _, h1⟩
  have hbn := own_lenB ho
  subst hbn
  have hle := LB.out.size
  replace LB : Hid (Below w.heap.size w w3) := LB.out.trans (hb.mono LB.out.size)
  replace X0 : Hid (BX 24 w3 w.heap.size #[.int .i64 T0.step, .int .i64 T0.phase, .bool T0.fresh, .slice a0 T0.vals.length c0, .slice b0 T0.mail.length d0]) := X0.out.below hb X0.out.lt
  replace SV : Hid (w3.ownsRow w.heap.size 53 2 (.slice Sa (keptS T0).vals.length Sc) (keptS T0).vals.length ((keptS T0).vals.flatMap encM)) := own_below SV.out hb (Nat.le_refl _)
  replace SM : Hid (w3.ownsRow w.heap.size 62 2 (.slice Sb (keptS T0).mail.length Sd) (keptS T0).mail.length ((keptS T0).mail.flatMap encM)) := own_below SM.out hb (Nat.le_refl _)
  replace S : Hid (BX 28 w3 q1 #[.int .i64 (keptS T0).step, .int .i64 (keptS T0).phase, .bool (keptS T0).fresh, .slice Sa (keptS T0).vals.length Sc, .slice Sb (keptS T0).mail.length Sd]) := S.out.below hb S.out.lt
  have BV : Hid (w3.ownsRow w.heap.size 5 1 (.slice ba kb0.length bc) kb0.length (kb0.map (Value.int .u8))) := own_mono ho hle
  clear ho hb hle z1_0 z1_1 z1_2 z1_3 z1_4
  go_wp2_with fail
  refine (CD0.out _ _ (reads_own BV.out)).mono ?_
  rintro e w4 ⟨v1, v2, rfl, ho1, ho2, hb⟩
  obtain ⟨Ra, Rc, rfl⟩ := (RowK.own encM_len ho1 : MlR w4 v1 (keptS T0).vals).shape
  obtain ⟨Rb, Rd, rfl⟩ := (RowK.own encM_len ho2 : MlR w4 v2 (keptS T0).mail).shape
  have hle := LB.out.size
  replace LB : Hid (Below w.heap.size w w4) := LB.out.trans (hb.mono LB.out.size)
  replace X0 : Hid (BX 24 w4 w.heap.size #[.int .i64 T0.step, .int .i64 T0.phase, .bool T0.fresh, .slice a0 T0.vals.length c0, .slice b0 T0.mail.length d0]) := X0.out.below hb X0.out.lt
  replace SV : Hid (w4.ownsRow w.heap.size 53 2 (.slice Sa (keptS T0).vals.length Sc) (keptS T0).vals.length ((keptS T0).vals.flatMap encM)) := own_below SV.out hb (Nat.le_refl _)
  replace SM : Hid (w4.ownsRow w.heap.size 62 2 (.slice Sb (keptS T0).mail.length Sd) (keptS T0).mail.length ((keptS T0).mail.flatMap encM)) := own_below SM.out hb (Nat.le_refl _)
  replace S : Hid (BX 28 w4 q1 #[.int .i64 (keptS T0).step, .int .i64 (keptS T0).phase, .bool (keptS T0).fresh, .slice Sa (keptS T0).vals.length Sc, .slice Sb (keptS T0).mail.length Sd]) := S.out.below hb S.out.lt
  replace BV : Hid (w4.ownsRow w.heap.size 5 1 (.slice ba kb0.length bc) kb0.length (kb0.map (Value.int .u8))) := own_below BV.out hb (Nat.le_refl _)
  have RV : Hid (w4.ownsRow w.heap.size 53 2 (.slice Ra (keptS T0).vals.length Rc) (keptS T0).vals.length ((keptS T0).vals.flatMap encM)) := own_lower ho1 hle
  have RM : Hid (w4.ownsRow w.heap.size 62 2 (.slice Rb (keptS T0).mail.length Rd) (keptS T0).mail.length ((keptS T0).mail.flatMap encM)) := own_lower ho2 hle
  clear ho1 ho2 hb hle
  have L9 := LB.out.size
  have M9_X0 := X0.out.lt
  have M9_S := S.out.lt
  replace LB : Hid (Below w.heap.size w (w4.alloc (.cells #[.int .i64 (keptS T0).step, .int .i64 (keptS T0).phase, .bool (keptS T0).fresh, .slice Ra (keptS T0).vals.length Rc, .slice Rb (keptS T0).mail.length Rd] 28))) := LB.out.alloc LB.out.size _
  replace X0 : Hid (BX 24 (w4.alloc (.cells #[.int .i64 (keptS T0).step, .int .i64 (keptS T0).phase, .bool (keptS T0).fresh, .slice Ra (keptS T0).vals.length Rc, .slice Rb (keptS T0).mail.length Rd] 28)) w.heap.size #[.int .i64 T0.step, .int .i64 T0.phase, .bool T0.fresh, .slice a0 T0.vals.length c0, .slice b0 T0.mail.length d0]) := X0.out.below (below_alloc _ _) X0.out.lt
  replace SV : Hid ((w4.alloc (.cells #[.int .i64 (keptS T0).step, .int .i64 (keptS T0).phase, .bool (keptS T0).fresh, .slice Ra (keptS T0).vals.length Rc, .slice Rb (keptS T0).mail.length Rd] 28)).ownsRow w.heap.size 53 2 (.slice Sa (keptS T0).vals.length Sc) (keptS T0).vals.length ((keptS T0).vals.flatMap encM)) := own_below SV.out (below_alloc _ _) (Nat.le_refl _)
  replace SM : Hid ((w4.alloc (.cells #[.int .i64 (keptS T0).step, .int .i64 (keptS T0).phase, .bool (keptS T0).fresh, .slice Ra (keptS T0).vals.length Rc, .slice Rb (keptS T0).mail.length Rd] 28)).ownsRow w.heap.size 62 2 (.slice Sb (keptS T0).mail.length Sd) (keptS T0).mail.length ((keptS T0).mail.flatMap encM)) := own_below SM.out (below_alloc _ _) (Nat.le_refl _)
  replace S : Hid (BX 28 (w4.alloc (.cells #[.int .i64 (keptS T0).step, .int .i64 (keptS T0).phase, .bool (keptS T0).fresh, .slice Ra (keptS T0).vals.length Rc, .slice Rb (keptS T0).mail.length Rd] 28)) q1 #[.int .i64 (keptS T0).step, .int .i64 (keptS T0).phase, .bool (keptS T0).fresh, .slice Sa (keptS T0).vals.length Sc, .slice Sb (keptS T0).mail.length Sd]) := S.out.below (below_alloc _ _) S.out.lt
  replace BV : Hid ((w4.alloc (.cells #[.int .i64 (keptS T0).step, .int .i64 (keptS T0).phase, .bool (keptS T0).fresh, .slice Ra (keptS T0).vals.length Rc, .slice Rb (keptS T0).mail.length Rd] 28)).ownsRow w.heap.size 5 1 (.slice ba kb0.length bc) kb0.length (kb0.map (Value.int .u8))) := own_below BV.out (below_alloc _ _) (Nat.le_refl _)
  replace RV : Hid ((w4.alloc (.cells #[.int .i64 (keptS T0).step, .int .i64 (keptS T0).phase, .bool (keptS T0).fresh, .slice Ra (keptS T0).vals.length Rc, .slice Rb (keptS T0).mail.length Rd] 28)).ownsRow w.heap.size 53 2 (.slice Ra (keptS T0).vals.length Rc) (keptS T0).vals.length ((keptS T0).vals.flatMap encM)) := own_below RV.out (below_alloc _ _) (Nat.le_refl _)
  replace RM : Hid ((w4.alloc (.cells #[.int .i64 (keptS T0).step, .int .i64 (keptS T0).phase, .bool (keptS T0).fresh, .slice Ra (keptS T0).vals.length Rc, .slice Rb (keptS T0).mail.length Rd] 28)).ownsRow w.heap.size 62 2 (.slice Rb (keptS T0).mail.length Rd) (keptS T0).mail.length ((keptS T0).mail.flatMap encM)) := own_below RM.out (below_alloc _ _) (Nat.le_refl _)
  have R : Hid (BX 28 (w4.alloc (.cells #[.int .i64 (keptS T0).step, .int .i64 (keptS T0).phase, .bool (keptS T0).fresh, .slice Ra (keptS T0).vals.length Rc, .slice Rb (keptS T0).mail.length Rd] 28)) w4.heap.size #[.int .i64 (keptS T0).step, .int .i64 (keptS T0).phase, .bool (keptS T0).fresh, .slice Ra (keptS T0).vals.length Rc, .slice Rb (keptS T0).mail.length Rd]) := BX.new _ _ _
  have l_q2 : w.heap.size ≤ w4.heap.size := L9
  clear L9
  have n_X0_q2 : w.heap.size < w4.heap.size := M9_X0
  clear M9_X0
  have n_S_q2 : q1 < w4.heap.size := M9_S
  clear M9_S
  go_upto_region 5 with fail
  generalize w4.alloc (.cells #[.int .i64 (keptS T0).step, .int .i64 (keptS T0).phase, .bool (keptS T0).fresh, .slice Ra (keptS T0).vals.length Rc, .slice Rb (keptS T0).mail.length Rd] 28) = w4n at *
  generalize w4.heap.size = q2 at *
  have dn : DiskR w4n (.slice none 0 0) [] := diskR_nil _
  have DN : Hid (DiskR w4n (.slice none 0 0) []) := dn
  clear dn
  have z2_0 : w4n.cell? ⟨q1, 0, none⟩ = some (.int .i64 (keptS T0).step) := S.out.cell 0
  have z2_1 : w4n.cell? ⟨q1, 1, none⟩ = some (.int .i64 (keptS T0).phase) := S.out.cell 1
  have z2_2 : w4n.cell? ⟨q1, 2, none⟩ = some (.bool (keptS T0).fresh) := S.out.cell 2
  have z2_3 : w4n.cell? ⟨q1, 3, none⟩ = some (.slice Sa (keptS T0).vals.length Sc) := S.out.cell 3
  have z2_4 : w4n.cell? ⟨q1, 4, none⟩ = some (.slice Sb (keptS T0).mail.length Sd) := S.out.cell 4
  go_wp2_with fail
  refine (CPU.out _ _ _ _ DN.out (RowK.own encM_len SV.out) (RowK.own encM_len SM.out)).mono ?_
  rintro e w5 ⟨v', rfl, hd, hb⟩
  obtain ⟨D1a, D1c, rfl⟩ : ∃ a c, v' = .slice a ([fN kb0]).length c := by obtain ⟨a, c, e, _⟩ := hd; exact ⟨a, c, e⟩
  replace LB : Hid (Below w.heap.size w w5) := LB.out.trans (hb.mono LB.out.size)
  replace X0 : Hid (BX 24 w5 w.heap.size #[.int .i64 T0.step, .int .i64 T0.phase, .bool T0.fresh, .slice a0 T0.vals.length c0, .slice b0 T0.mail.length d0]) := X0.out.below hb X0.out.lt
  replace SV : Hid (w5.ownsRow w.heap.size 53 2 (.slice Sa (keptS T0).vals.length Sc) (keptS T0).vals.length ((keptS T0).vals.flatMap encM)) := own_below SV.out hb (Nat.le_refl _)
  replace SM : Hid (w5.ownsRow w.heap.size 62 2 (.slice Sb (keptS T0).mail.length Sd) (keptS T0).mail.length ((keptS T0).mail.flatMap encM)) := own_below SM.out hb (Nat.le_refl _)
  replace S : Hid (BX 28 w5 q1 #[.int .i64 (keptS T0).step, .int .i64 (keptS T0).phase, .bool (keptS T0).fresh, .slice Sa (keptS T0).vals.length Sc, .slice Sb (keptS T0).mail.length Sd]) := S.out.below hb S.out.lt
  replace BV : Hid (w5.ownsRow w.heap.size 5 1 (.slice ba kb0.length bc) kb0.length (kb0.map (Value.int .u8))) := own_below BV.out hb (Nat.le_refl _)
  replace RV : Hid (w5.ownsRow w.heap.size 53 2 (.slice Ra (keptS T0).vals.length Rc) (keptS T0).vals.length ((keptS T0).vals.flatMap encM)) := own_below RV.out hb (Nat.le_refl _)
  replace RM : Hid (w5.ownsRow w.heap.size 62 2 (.slice Rb (keptS T0).mail.length Rd) (keptS T0).mail.length ((keptS T0).mail.flatMap encM)) := own_below RM.out hb (Nat.le_refl _)
  replace R : Hid (BX 28 w5 q2 #[.int .i64 (keptS T0).step, .int .i64 (keptS T0).phase, .bool (keptS T0).fresh, .slice Ra (keptS T0).vals.length Rc, .slice Rb (keptS T0).mail.length Rd]) := R.out.below hb R.out.lt
  have D1 : Hid (DiskR w5 (.slice D1a ([fN kb0]).length D1c) ([fN kb0])) := hd
  clear hd hb
  clear z2_0 z2_1 z2_2 z2_3 z2_4
  clear DN
  have L9 := LB.out.size
  have M9_X0 := X0.out.lt
  have M9_S := S.out.lt
  have M9_R := R.out.lt
  replace LB : Hid (Below w.heap.size w (w5.alloc (.cells #[.slice D1a ([fN kb0] : List FileL).length D1c] 39))) := LB.out.alloc LB.out.size _
  replace X0 : Hid (BX 24 (w5.alloc (.cells #[.slice D1a ([fN kb0] : List FileL).length D1c] 39)) w.heap.size #[.int .i64 T0.step, .int .i64 T0.phase, .bool T0.fresh, .slice a0 T0.vals.length c0, .slice b0 T0.mail.length d0]) := X0.out.below (below_alloc _ _) X0.out.lt
  replace SV : Hid ((w5.alloc (.cells #[.slice D1a ([fN kb0] : List FileL).length D1c] 39)).ownsRow w.heap.size 53 2 (.slice Sa (keptS T0).vals.length Sc) (keptS T0).vals.length ((keptS T0).vals.flatMap encM)) := own_below SV.out (below_alloc _ _) (Nat.le_refl _)
  replace SM : Hid ((w5.alloc (.cells #[.slice D1a ([fN kb0] : List FileL).length D1c] 39)).ownsRow w.heap.size 62 2 (.slice Sb (keptS T0).mail.length Sd) (keptS T0).mail.length ((keptS T0).mail.flatMap encM)) := own_below SM.out (below_alloc _ _) (Nat.le_refl _)
  replace S : Hid (BX 28 (w5.alloc (.cells #[.slice D1a ([fN kb0] : List FileL).length D1c] 39)) q1 #[.int .i64 (keptS T0).step, .int .i64 (keptS T0).phase, .bool (keptS T0).fresh, .slice Sa (keptS T0).vals.length Sc, .slice Sb (keptS T0).mail.length Sd]) := S.out.below (below_alloc _ _) S.out.lt
  replace BV : Hid ((w5.alloc (.cells #[.slice D1a ([fN kb0] : List FileL).length D1c] 39)).ownsRow w.heap.size 5 1 (.slice ba kb0.length bc) kb0.length (kb0.map (Value.int .u8))) := own_below BV.out (below_alloc _ _) (Nat.le_refl _)
  replace RV : Hid ((w5.alloc (.cells #[.slice D1a ([fN kb0] : List FileL).length D1c] 39)).ownsRow w.heap.size 53 2 (.slice Ra (keptS T0).vals.length Rc) (keptS T0).vals.length ((keptS T0).vals.flatMap encM)) := own_below RV.out (below_alloc _ _) (Nat.le_refl _)
  replace RM : Hid ((w5.alloc (.cells #[.slice D1a ([fN kb0] : List FileL).length D1c] 39)).ownsRow w.heap.size 62 2 (.slice Rb (keptS T0).mail.length Rd) (keptS T0).mail.length ((keptS T0).mail.flatMap encM)) := own_below RM.out (below_alloc _ _) (Nat.le_refl _)
  replace R : Hid (BX 28 (w5.alloc (.cells #[.slice D1a ([fN kb0] : List FileL).length D1c] 39)) q2 #[.int .i64 (keptS T0).step, .int .i64 (keptS T0).phase, .bool (keptS T0).fresh, .slice Ra (keptS T0).vals.length Rc, .slice Rb (keptS T0).mail.length Rd]) := R.out.below (below_alloc _ _) R.out.lt
  replace D1 : Hid (DiskR (w5.alloc (.cells #[.slice D1a ([fN kb0] : List FileL).length D1c] 39)) (.slice D1a ([fN kb0]).length D1c) ([fN kb0])) := D1.out.below (below_alloc _ _) (Nat.le_refl _)
  have D : Hid (BX 39 (w5.alloc (.cells #[.slice D1a ([fN kb0] : List FileL).length D1c] 39)) w5.heap.size #[.slice D1a ([fN kb0] : List FileL).length D1c]) := BX.new _ _ _
  have l_q3 : w.heap.size ≤ w5.heap.size := L9
  clear L9
  have n_X0_q3 : w.heap.size < w5.heap.size := M9_X0
  clear M9_X0
  have n_S_q3 : q1 < w5.heap.size := M9_S
  clear M9_S
  have n_R_q3 : q2 < w5.heap.size := M9_R
  clear M9_R
  go_upto_region 6 with fail
  generalize w5.alloc (.cells #[.slice D1a ([fN kb0] : List FileL).length D1c] 39) = w5n at *
  generalize w5.heap.size = q3 at *
  have z3_0 : w5n.cell? ⟨q3, 0, none⟩ = some (.slice D1a ([fN kb0] : List FileL).length D1c) := D.out.cell 0
  go_wp2_with fail
  refine (CSE.out _ _ D1.out).mono ?_
  rintro e w6 ⟨v', rfl, hd, hb⟩
  obtain ⟨D2a, D2c, rfl⟩ : ∃ a c, v' = .slice a ([fS p kb0]).length c := by obtain ⟨a, c, e, _⟩ := hd; exact ⟨a, c, e⟩
  replace LB : Hid (Below w.heap.size w w6) := LB.out.trans (hb.mono LB.out.size)
  replace X0 : Hid (BX 24 w6 w.heap.size #[.int .i64 T0.step, .int .i64 T0.phase, .bool T0.fresh, .slice a0 T0.vals.length c0, .slice b0 T0.mail.length d0]) := X0.out.below hb X0.out.lt
  replace SV : Hid (w6.ownsRow w.heap.size 53 2 (.slice Sa (keptS T0).vals.length Sc) (keptS T0).vals.length ((keptS T0).vals.flatMap encM)) := own_below SV.out hb (Nat.le_refl _)
  replace SM : Hid (w6.ownsRow w.heap.size 62 2 (.slice Sb (keptS T0).mail.length Sd) (keptS T0).mail.length ((keptS T0).mail.flatMap encM)) := own_below SM.out hb (Nat.le_refl _)
  replace S : Hid (BX 28 w6 q1 #[.int .i64 (keptS T0).step, .int .i64 (keptS T0).phase, .bool (keptS T0).fresh, .slice Sa (keptS T0).vals.length Sc, .slice Sb (keptS T0).mail.length Sd]) := S.out.below hb S.out.lt
  replace BV : Hid (w6.ownsRow w.heap.size 5 1 (.slice ba kb0.length bc) kb0.length (kb0.map (Value.int .u8))) := own_below BV.out hb (Nat.le_refl _)
  replace RV : Hid (w6.ownsRow w.heap.size 53 2 (.slice Ra (keptS T0).vals.length Rc) (keptS T0).vals.length ((keptS T0).vals.flatMap encM)) := own_below RV.out hb (Nat.le_refl _)
  replace RM : Hid (w6.ownsRow w.heap.size 62 2 (.slice Rb (keptS T0).mail.length Rd) (keptS T0).mail.length ((keptS T0).mail.flatMap encM)) := own_below RM.out hb (Nat.le_refl _)
  replace R : Hid (BX 28 w6 q2 #[.int .i64 (keptS T0).step, .int .i64 (keptS T0).phase, .bool (keptS T0).fresh, .slice Ra (keptS T0).vals.length Rc, .slice Rb (keptS T0).mail.length Rd]) := R.out.below hb R.out.lt
  replace D1 : Hid (DiskR w6 (.slice D1a ([fN kb0]).length D1c) ([fN kb0])) := D1.out.below hb (Nat.le_refl _)
  replace D : Hid (BX 39 w6 q3 #[.slice D1a ([fN kb0] : List FileL).length D1c]) := D.out.below hb D.out.lt
  have D2 : Hid (DiskR w6 (.slice D2a ([fS p kb0]).length D2c) ([fS p kb0])) := hd
  clear hd hb
  clear z3_0
  have z4_0 : w6.cell? ⟨q3, 0, none⟩ = some (.slice D1a ([fN kb0] : List FileL).length D1c) := D.out.cell 0
  have y5_0 : w6.frozen? ⟨q3, 0, none⟩ = false := D.out.frozen 0
  have D_old := D.out
  replace LB : Hid (Below w.heap.size w (w6.setCell ⟨q3, 0, none⟩ (.slice D2a ([fS p kb0] : List FileL).length D2c))) := LB.out.setCell (show w.heap.size ≤ q3 by omega) _
  replace X0 : Hid (BX 24 (w6.setCell ⟨q3, 0, none⟩ (.slice D2a ([fS p kb0] : List FileL).length D2c)) w.heap.size #[.int .i64 T0.step, .int .i64 T0.phase, .bool T0.fresh, .slice a0 T0.vals.length c0, .slice b0 T0.mail.length d0]) := X0.out.other (by omega)
  replace SV : Hid ((w6.setCell ⟨q3, 0, none⟩ (.slice D2a ([fS p kb0] : List FileL).length D2c)).ownsRow w.heap.size 53 2 (.slice Sa (keptS T0).vals.length Sc) (keptS T0).vals.length ((keptS T0).vals.flatMap encM)) := D_old.own SV.out (by decide)
  replace SM : Hid ((w6.setCell ⟨q3, 0, none⟩ (.slice D2a ([fS p kb0] : List FileL).length D2c)).ownsRow w.heap.size 62 2 (.slice Sb (keptS T0).mail.length Sd) (keptS T0).mail.length ((keptS T0).mail.flatMap encM)) := D_old.own SM.out (by decide)
  replace S : Hid (BX 28 (w6.setCell ⟨q3, 0, none⟩ (.slice D2a ([fS p kb0] : List FileL).length D2c)) q1 #[.int .i64 (keptS T0).step, .int .i64 (keptS T0).phase, .bool (keptS T0).fresh, .slice Sa (keptS T0).vals.length Sc, .slice Sb (keptS T0).mail.length Sd]) := S.out.other (by omega)
  replace BV : Hid ((w6.setCell ⟨q3, 0, none⟩ (.slice D2a ([fS p kb0] : List FileL).length D2c)).ownsRow w.heap.size 5 1 (.slice ba kb0.length bc) kb0.length (kb0.map (Value.int .u8))) := D_old.own BV.out (by decide)
  replace RV : Hid ((w6.setCell ⟨q3, 0, none⟩ (.slice D2a ([fS p kb0] : List FileL).length D2c)).ownsRow w.heap.size 53 2 (.slice Ra (keptS T0).vals.length Rc) (keptS T0).vals.length ((keptS T0).vals.flatMap encM)) := D_old.own RV.out (by decide)
  replace RM : Hid ((w6.setCell ⟨q3, 0, none⟩ (.slice D2a ([fS p kb0] : List FileL).length D2c)).ownsRow w.heap.size 62 2 (.slice Rb (keptS T0).mail.length Rd) (keptS T0).mail.length ((keptS T0).mail.flatMap encM)) := D_old.own RM.out (by decide)
  replace R : Hid (BX 28 (w6.setCell ⟨q3, 0, none⟩ (.slice D2a ([fS p kb0] : List FileL).length D2c)) q2 #[.int .i64 (keptS T0).step, .int .i64 (keptS T0).phase, .bool (keptS T0).fresh, .slice Ra (keptS T0).vals.length Rc, .slice Rb (keptS T0).mail.length Rd]) := R.out.other (by omega)
  replace D1 : Hid (DiskR (w6.setCell ⟨q3, 0, none⟩ (.slice D2a ([fS p kb0] : List FileL).length D2c)) (.slice D1a ([fN kb0]).length D1c) ([fN kb0])) := D1.out.setBox D_old
  replace D : Hid (BX 39 (w6.setCell ⟨q3, 0, none⟩ (.slice D2a ([fS p kb0] : List FileL).length D2c)) q3 #[.slice D2a ([fS p kb0] : List FileL).length D2c]) := D.out.set 0 _
  replace D2 : Hid (DiskR (w6.setCell ⟨q3, 0, none⟩ (.slice D2a ([fS p kb0] : List FileL).length D2c)) (.slice D2a ([fS p kb0]).length D2c) ([fS p kb0])) := D2.out.setBox D_old
  clear D_old
  go_upto_region 7 with fail
  generalize w6.setCell ⟨q3, 0, none⟩ (.slice D2a ([fS p kb0] : List FileL).length D2c) = w6s at *
  clear z4_0 y5_0
  have eA : ∀ args w, (callFunc 7 args).run Tryz.prog w = .ok (.enter 7 args) w := enters_of Tryz.func7 (by kernel_rfl) rfl
  have eF : ∀ args w, (callFunc 12 args).run Tryz.prog w = .ok (.enter 12 args) w := enters_of Tryz.func12 (by kernel_rfl) rfl
  have z6_0 : w6s.cell? ⟨q3, 0, none⟩ = some (.slice D2a ([fS p kb0] : List FileL).length D2c) := D.out.cell 0
  have BD : Below w6s.heap.size w6s w6s.drew := (Below.refl _ _).drew
  have KS : Hid (∀ V, Below w6s.heap.size w6s V → V.cell? ⟨q3, 0, none⟩ = some (.slice D2a ([fS p kb0] : List FileL).length D2c)) := fun V h => (D.out.below h D.out.lt).cell 0
  replace LB : Hid (Below w.heap.size w w6s.drew) := LB.out.trans (BD.mono LB.out.size)
  replace X0 : Hid (BX 24 w6s.drew w.heap.size #[.int .i64 T0.step, .int .i64 T0.phase, .bool T0.fresh, .slice a0 T0.vals.length c0, .slice b0 T0.mail.length d0]) := X0.out.below BD X0.out.lt
  replace SV : Hid (w6s.drew.ownsRow w.heap.size 53 2 (.slice Sa (keptS T0).vals.length Sc) (keptS T0).vals.length ((keptS T0).vals.flatMap encM)) := own_below SV.out BD (Nat.le_refl _)
  replace SM : Hid (w6s.drew.ownsRow w.heap.size 62 2 (.slice Sb (keptS T0).mail.length Sd) (keptS T0).mail.length ((keptS T0).mail.flatMap encM)) := own_below SM.out BD (Nat.le_refl _)
  replace S : Hid (BX 28 w6s.drew q1 #[.int .i64 (keptS T0).step, .int .i64 (keptS T0).phase, .bool (keptS T0).fresh, .slice Sa (keptS T0).vals.length Sc, .slice Sb (keptS T0).mail.length Sd]) := S.out.below BD S.out.lt
  replace BV : Hid (w6s.drew.ownsRow w.heap.size 5 1 (.slice ba kb0.length bc) kb0.length (kb0.map (Value.int .u8))) := own_below BV.out BD (Nat.le_refl _)
  replace RV : Hid (w6s.drew.ownsRow w.heap.size 53 2 (.slice Ra (keptS T0).vals.length Rc) (keptS T0).vals.length ((keptS T0).vals.flatMap encM)) := own_below RV.out BD (Nat.le_refl _)
  replace RM : Hid (w6s.drew.ownsRow w.heap.size 62 2 (.slice Rb (keptS T0).mail.length Rd) (keptS T0).mail.length ((keptS T0).mail.flatMap encM)) := own_below RM.out BD (Nat.le_refl _)
  replace R : Hid (BX 28 w6s.drew q2 #[.int .i64 (keptS T0).step, .int .i64 (keptS T0).phase, .bool (keptS T0).fresh, .slice Ra (keptS T0).vals.length Rc, .slice Rb (keptS T0).mail.length Rd]) := R.out.below BD R.out.lt
  replace D1 : Hid (DiskR w6s.drew (.slice D1a ([fN kb0]).length D1c) ([fN kb0])) := D1.out.below BD (Nat.le_refl _)
  replace D : Hid (BX 39 w6s.drew q3 #[.slice D2a ([fS p kb0] : List FileL).length D2c]) := D.out.below BD D.out.lt
  replace D2 : Hid (DiskR w6s.drew (.slice D2a ([fS p kb0]).length D2c) ([fS p kb0])) := D2.out.below BD (Nat.le_refl _)
  refine wp_region_late (fun V => V.cell? ⟨q3, 0, none⟩ = some (.slice D2a ([fS p kb0] : List FileL).length D2c)) (fun j => j == 7) (by kernel_rfl) ?_
  simp only [List.size_toArray, List.length_cons, List.length_nil, Nat.reduceAdd]
  refine takeL (i := 0) (v := .agg #[.slice D2a ([fS p kb0] : List FileL).length D2c]) (d := 46) rfl rfl (by kernel_rfl) (by kernel_rfl) (by kernel_rfl) (by kernel_rfl) (fun _ _ _ h => h) (by rfl) (fun V hV => by have _ := hV; go_simp) (KS.out _ BD) ?_
  simp only [Act.put, List.setIfInBounds_toArray, List.set_cons_zero, List.set_cons_succ]
  refine takeL (i := 1) (v := .int .i64 n2) (d := 47) rfl rfl (by kernel_rfl) (by kernel_rfl) (by kernel_rfl) (by kernel_rfl) (fun _ _ _ h => h) (by rfl) (fun V hV => by have _ := hV; go_simp) (KS.out _ BD) ?_
  simp only [Act.put, List.setIfInBounds_toArray, List.set_cons_zero, List.set_cons_succ]
  refine oneL (i := 2) rfl (by kernel_rfl) rfl (call_same (d := 48) (f := 7) (xs := #[.tmp 47, .const (.int .i64 200)]) (ats := #[3, 3]) rfl rfl eA (vs := #[.int .i64 n2, .int .i64 200]) (by simp [Act.eval]) (CQ.out _) ⟨fun _ => KS.out _ BD, ?_⟩)
  simp only [Act.put, List.setIfInBounds_toArray, List.set_cons_zero, List.set_cons_succ]
  refine oneL (i := 3) rfl (by kernel_rfl) rfl (call_gets (R := fun v w' => ∃ v', v = .tuple #[.agg #[v'], .int .i64 0] ∧ DiskR w' v' ([fS p kb0]) ∧ Below w6s.drew.heap.size w6s.drew w') (d := 49) (f := 12) (xs := #[.tmp 46, .tmp 48]) (ats := #[39, 3]) rfl rfl eF (vs := #[.agg #[.slice D2a ([fS p kb0] : List FileL).length D2c], .int .i64 kp]) (by simp [Act.eval]) ((CCR.out _ _ D2.out).mono fun e w' h => by obtain ⟨v', h1, h2, h3⟩ := h; exact ⟨_, h1, v', rfl, h2, h3⟩) ?_)
  rintro v wF8 ⟨v', rfl, hd, hb⟩
  have BF : Below w6s.heap.size w6s wF8 := BD.trans (hb.mono BD.size)
  obtain ⟨D3a, D3c, rfl⟩ : ∃ a c, v' = .slice a ([fS p kb0]).length c := by obtain ⟨a, c, e, _⟩ := hd; exact ⟨a, c, e⟩
  replace LB : Hid (Below w.heap.size w wF8) := LB.out.trans (hb.mono LB.out.size)
  replace X0 : Hid (BX 24 wF8 w.heap.size #[.int .i64 T0.step, .int .i64 T0.phase, .bool T0.fresh, .slice a0 T0.vals.length c0, .slice b0 T0.mail.length d0]) := X0.out.below hb X0.out.lt
  replace SV : Hid (wF8.ownsRow w.heap.size 53 2 (.slice Sa (keptS T0).vals.length Sc) (keptS T0).vals.length ((keptS T0).vals.flatMap encM)) := own_below SV.out hb (Nat.le_refl _)
  replace SM : Hid (wF8.ownsRow w.heap.size 62 2 (.slice Sb (keptS T0).mail.length Sd) (keptS T0).mail.length ((keptS T0).mail.flatMap encM)) := own_below SM.out hb (Nat.le_refl _)
  replace S : Hid (BX 28 wF8 q1 #[.int .i64 (keptS T0).step, .int .i64 (keptS T0).phase, .bool (keptS T0).fresh, .slice Sa (keptS T0).vals.length Sc, .slice Sb (keptS T0).mail.length Sd]) := S.out.below hb S.out.lt
  replace BV : Hid (wF8.ownsRow w.heap.size 5 1 (.slice ba kb0.length bc) kb0.length (kb0.map (Value.int .u8))) := own_below BV.out hb (Nat.le_refl _)
  replace RV : Hid (wF8.ownsRow w.heap.size 53 2 (.slice Ra (keptS T0).vals.length Rc) (keptS T0).vals.length ((keptS T0).vals.flatMap encM)) := own_below RV.out hb (Nat.le_refl _)
  replace RM : Hid (wF8.ownsRow w.heap.size 62 2 (.slice Rb (keptS T0).mail.length Rd) (keptS T0).mail.length ((keptS T0).mail.flatMap encM)) := own_below RM.out hb (Nat.le_refl _)
  replace R : Hid (BX 28 wF8 q2 #[.int .i64 (keptS T0).step, .int .i64 (keptS T0).phase, .bool (keptS T0).fresh, .slice Ra (keptS T0).vals.length Rc, .slice Rb (keptS T0).mail.length Rd]) := R.out.below hb R.out.lt
  replace D1 : Hid (DiskR wF8 (.slice D1a ([fN kb0]).length D1c) ([fN kb0])) := D1.out.below hb (Nat.le_refl _)
  replace D : Hid (BX 39 wF8 q3 #[.slice D2a ([fS p kb0] : List FileL).length D2c]) := D.out.below hb D.out.lt
  replace D2 : Hid (DiskR wF8 (.slice D2a ([fS p kb0]).length D2c) ([fS p kb0])) := D2.out.below hb (Nat.le_refl _)
  have D3 : Hid (DiskR wF8 (.slice D3a ([fS p kb0]).length D3c) ([fS p kb0])) := hd
  clear hd hb
  refine ⟨fun _ => KS.out _ BF, ?_⟩
  simp only [Act.put, List.setIfInBounds_toArray, List.set_cons_zero, List.set_cons_succ]
  show wpAnyL _ _ _ _ _ _ _ true _ _ _
  refine takeL (i := 4) (v := .tuple #[.agg #[.slice D3a ([fS p kb0]).length D3c], .int .i64 0]) (d := 45) rfl rfl (by kernel_rfl) (by kernel_rfl) (by kernel_rfl) (by kernel_rfl) (fun _ _ _ h => h) (by rfl) (fun V hV => by have _ := hV; go_simp) (KS.out _ BF) ?_
  simp only [Act.put, List.setIfInBounds_toArray, List.set_cons_zero, List.set_cons_succ]
  refine takeL (i := 5) (v := .agg #[.slice D3a ([fS p kb0]).length D3c]) (d := 50) rfl rfl (by kernel_rfl) (by kernel_rfl) (by kernel_rfl) (by kernel_rfl) (fun _ _ _ h => h) (by rfl) (fun V hV => by have _ := hV; go_simp) (KS.out _ BF) ?_
  simp only [Act.put, List.setIfInBounds_toArray, List.set_cons_zero, List.set_cons_succ]
  refine takeP (i := 6) (v := .int .i64 0) (d := 51) rfl rfl (by kernel_rfl) (by kernel_rfl) (by kernel_rfl) rfl (fun _ _ _ h => h) (by rfl) (fun V => by go_simp) (fun _ => KS.out _ BF) ?_
  simp only [Act.put, List.setIfInBounds_toArray, List.set_cons_zero, List.set_cons_succ]
  clear z6_0
  have z7_0 : wF8.cell? ⟨q3, 0, none⟩ = some (.slice D2a ([fS p kb0] : List FileL).length D2c) := D.out.cell 0
  have y8_0 : wF8.frozen? ⟨q3, 0, none⟩ = false := D.out.frozen 0
  refine oneL (i := 7) rfl (by kernel_rfl) rfl (op_skip (w' := wF8.setCell ⟨q3, 0, none⟩ (.slice D3a ([fS p kb0]).length D3c)) rfl (by go_simp) ⟨fun h9 => (by cases h9), ?_⟩)
  refine oneL (i := 8) rfl (by kernel_rfl) rfl (op_run (d := 16) (v' := .int .i64 0) (w' := wF8.setCell ⟨q3, 0, none⟩ (.slice D3a ([fS p kb0]).length D3c)) rfl (by go_simp) ⟨fun h9 => (by cases h9), ?_⟩)
  simp only [Act.put, List.setIfInBounds_toArray, List.set_cons_zero, List.set_cons_succ]
  refine doneL (by kernel_rfl) ?_
  clear z7_0 y8_0 KS BF
  have D_old := D.out
  replace LB : Hid (Below w.heap.size w (wF8.setCell ⟨q3, 0, none⟩ (.slice D3a ([fS p kb0]).length D3c))) := LB.out.setCell (show w.heap.size ≤ q3 by omega) _
  replace X0 : Hid (BX 24 (wF8.setCell ⟨q3, 0, none⟩ (.slice D3a ([fS p kb0]).length D3c)) w.heap.size #[.int .i64 T0.step, .int .i64 T0.phase, .bool T0.fresh, .slice a0 T0.vals.length c0, .slice b0 T0.mail.length d0]) := X0.out.other (by omega)
  replace SV : Hid ((wF8.setCell ⟨q3, 0, none⟩ (.slice D3a ([fS p kb0]).length D3c)).ownsRow w.heap.size 53 2 (.slice Sa (keptS T0).vals.length Sc) (keptS T0).vals.length ((keptS T0).vals.flatMap encM)) := D_old.own SV.out (by decide)
  replace SM : Hid ((wF8.setCell ⟨q3, 0, none⟩ (.slice D3a ([fS p kb0]).length D3c)).ownsRow w.heap.size 62 2 (.slice Sb (keptS T0).mail.length Sd) (keptS T0).mail.length ((keptS T0).mail.flatMap encM)) := D_old.own SM.out (by decide)
  replace S : Hid (BX 28 (wF8.setCell ⟨q3, 0, none⟩ (.slice D3a ([fS p kb0]).length D3c)) q1 #[.int .i64 (keptS T0).step, .int .i64 (keptS T0).phase, .bool (keptS T0).fresh, .slice Sa (keptS T0).vals.length Sc, .slice Sb (keptS T0).mail.length Sd]) := S.out.other (by omega)
  replace BV : Hid ((wF8.setCell ⟨q3, 0, none⟩ (.slice D3a ([fS p kb0]).length D3c)).ownsRow w.heap.size 5 1 (.slice ba kb0.length bc) kb0.length (kb0.map (Value.int .u8))) := D_old.own BV.out (by decide)
  replace RV : Hid ((wF8.setCell ⟨q3, 0, none⟩ (.slice D3a ([fS p kb0]).length D3c)).ownsRow w.heap.size 53 2 (.slice Ra (keptS T0).vals.length Rc) (keptS T0).vals.length ((keptS T0).vals.flatMap encM)) := D_old.own RV.out (by decide)
  replace RM : Hid ((wF8.setCell ⟨q3, 0, none⟩ (.slice D3a ([fS p kb0]).length D3c)).ownsRow w.heap.size 62 2 (.slice Rb (keptS T0).mail.length Rd) (keptS T0).mail.length ((keptS T0).mail.flatMap encM)) := D_old.own RM.out (by decide)
  replace R : Hid (BX 28 (wF8.setCell ⟨q3, 0, none⟩ (.slice D3a ([fS p kb0]).length D3c)) q2 #[.int .i64 (keptS T0).step, .int .i64 (keptS T0).phase, .bool (keptS T0).fresh, .slice Ra (keptS T0).vals.length Rc, .slice Rb (keptS T0).mail.length Rd]) := R.out.other (by omega)
  replace D1 : Hid (DiskR (wF8.setCell ⟨q3, 0, none⟩ (.slice D3a ([fS p kb0]).length D3c)) (.slice D1a ([fN kb0]).length D1c) ([fN kb0])) := D1.out.setBox D_old
  replace D : Hid (BX 39 (wF8.setCell ⟨q3, 0, none⟩ (.slice D3a ([fS p kb0]).length D3c)) q3 #[.slice D3a ([fS p kb0]).length D3c]) := D.out.set 0 _
  replace D2 : Hid (DiskR (wF8.setCell ⟨q3, 0, none⟩ (.slice D3a ([fS p kb0]).length D3c)) (.slice D2a ([fS p kb0]).length D2c) ([fS p kb0])) := D2.out.setBox D_old
  replace D3 : Hid (DiskR (wF8.setCell ⟨q3, 0, none⟩ (.slice D3a ([fS p kb0]).length D3c)) (.slice D3a ([fS p kb0]).length D3c) ([fS p kb0])) := D3.out.setBox D_old
  clear D_old
  generalize wF8.setCell ⟨q3, 0, none⟩ (.slice D3a ([fS p kb0]).length D3c) = w7 at *
  try clear BD
  go_upto_region 8 with fail
  have z9_0 : w7.cell? ⟨q3, 0, none⟩ = some (.slice D3a ([fS p kb0]).length D3c) := D.out.cell 0
  go_wp2_with fail
  refine (CLO.out _ _ D3.out).mono ?_
  rintro e w8 ⟨v1, v2, rfl, ho1, ho2, hb⟩
  obtain ⟨Ta, Tc, rfl⟩ := (RowK.own encM_len ho1 : MlR w8 v1 (keptS T0).vals).shape
  obtain ⟨Tb, Td, rfl⟩ := (RowK.own encM_len ho2 : MlR w8 v2 (keptS T0).mail).shape
  have hle := LB.out.size
  replace LB : Hid (Below w.heap.size w w8) := LB.out.trans (hb.mono LB.out.size)
  replace X0 : Hid (BX 24 w8 w.heap.size #[.int .i64 T0.step, .int .i64 T0.phase, .bool T0.fresh, .slice a0 T0.vals.length c0, .slice b0 T0.mail.length d0]) := X0.out.below hb X0.out.lt
  replace SV : Hid (w8.ownsRow w.heap.size 53 2 (.slice Sa (keptS T0).vals.length Sc) (keptS T0).vals.length ((keptS T0).vals.flatMap encM)) := own_below SV.out hb (Nat.le_refl _)
  replace SM : Hid (w8.ownsRow w.heap.size 62 2 (.slice Sb (keptS T0).mail.length Sd) (keptS T0).mail.length ((keptS T0).mail.flatMap encM)) := own_below SM.out hb (Nat.le_refl _)
  replace S : Hid (BX 28 w8 q1 #[.int .i64 (keptS T0).step, .int .i64 (keptS T0).phase, .bool (keptS T0).fresh, .slice Sa (keptS T0).vals.length Sc, .slice Sb (keptS T0).mail.length Sd]) := S.out.below hb S.out.lt
  replace BV : Hid (w8.ownsRow w.heap.size 5 1 (.slice ba kb0.length bc) kb0.length (kb0.map (Value.int .u8))) := own_below BV.out hb (Nat.le_refl _)
  replace RV : Hid (w8.ownsRow w.heap.size 53 2 (.slice Ra (keptS T0).vals.length Rc) (keptS T0).vals.length ((keptS T0).vals.flatMap encM)) := own_below RV.out hb (Nat.le_refl _)
  replace RM : Hid (w8.ownsRow w.heap.size 62 2 (.slice Rb (keptS T0).mail.length Rd) (keptS T0).mail.length ((keptS T0).mail.flatMap encM)) := own_below RM.out hb (Nat.le_refl _)
  replace R : Hid (BX 28 w8 q2 #[.int .i64 (keptS T0).step, .int .i64 (keptS T0).phase, .bool (keptS T0).fresh, .slice Ra (keptS T0).vals.length Rc, .slice Rb (keptS T0).mail.length Rd]) := R.out.below hb R.out.lt
  replace D1 : Hid (DiskR w8 (.slice D1a ([fN kb0]).length D1c) ([fN kb0])) := D1.out.below hb (Nat.le_refl _)
  replace D : Hid (BX 39 w8 q3 #[.slice D3a ([fS p kb0]).length D3c]) := D.out.below hb D.out.lt
  replace D2 : Hid (DiskR w8 (.slice D2a ([fS p kb0]).length D2c) ([fS p kb0])) := D2.out.below hb (Nat.le_refl _)
  replace D3 : Hid (DiskR w8 (.slice D3a ([fS p kb0]).length D3c) ([fS p kb0])) := D3.out.below hb (Nat.le_refl _)
  have TV : Hid (w8.ownsRow w.heap.size 53 2 (.slice Ta (keptS T0).vals.length Tc) (keptS T0).vals.length ((keptS T0).vals.flatMap encM)) := own_lower ho1 hle
  have TM : Hid (w8.ownsRow w.heap.size 62 2 (.slice Tb (keptS T0).mail.length Td) (keptS T0).mail.length ((keptS T0).mail.flatMap encM)) := own_lower ho2 hle
  clear ho1 ho2 hb hle
  clear z9_0
  have L9 := LB.out.size
  have M9_X0 := X0.out.lt
  have M9_S := S.out.lt
  have M9_R := R.out.lt
  have M9_D := D.out.lt
  replace LB : Hid (Below w.heap.size w (w8.alloc (.cells #[.int .i64 (keptS T0).step, .int .i64 (keptS T0).phase, .bool (keptS T0).fresh, .slice Ta (keptS T0).vals.length Tc, .slice Tb (keptS T0).mail.length Td] 28))) := LB.out.alloc LB.out.size _
  replace X0 : Hid (BX 24 (w8.alloc (.cells #[.int .i64 (keptS T0).step, .int .i64 (keptS T0).phase, .bool (keptS T0).fresh, .slice Ta (keptS T0).vals.length Tc, .slice Tb (keptS T0).mail.length Td] 28)) w.heap.size #[.int .i64 T0.step, .int .i64 T0.phase, .bool T0.fresh, .slice a0 T0.vals.length c0, .slice b0 T0.mail.length d0]) := X0.out.below (below_alloc _ _) X0.out.lt
  replace SV : Hid ((w8.alloc (.cells #[.int .i64 (keptS T0).step, .int .i64 (keptS T0).phase, .bool (keptS T0).fresh, .slice Ta (keptS T0).vals.length Tc, .slice Tb (keptS T0).mail.length Td] 28)).ownsRow w.heap.size 53 2 (.slice Sa (keptS T0).vals.length Sc) (keptS T0).vals.length ((keptS T0).vals.flatMap encM)) := own_below SV.out (below_alloc _ _) (Nat.le_refl _)
  replace SM : Hid ((w8.alloc (.cells #[.int .i64 (keptS T0).step, .int .i64 (keptS T0).phase, .bool (keptS T0).fresh, .slice Ta (keptS T0).vals.length Tc, .slice Tb (keptS T0).mail.length Td] 28)).ownsRow w.heap.size 62 2 (.slice Sb (keptS T0).mail.length Sd) (keptS T0).mail.length ((keptS T0).mail.flatMap encM)) := own_below SM.out (below_alloc _ _) (Nat.le_refl _)
  replace S : Hid (BX 28 (w8.alloc (.cells #[.int .i64 (keptS T0).step, .int .i64 (keptS T0).phase, .bool (keptS T0).fresh, .slice Ta (keptS T0).vals.length Tc, .slice Tb (keptS T0).mail.length Td] 28)) q1 #[.int .i64 (keptS T0).step, .int .i64 (keptS T0).phase, .bool (keptS T0).fresh, .slice Sa (keptS T0).vals.length Sc, .slice Sb (keptS T0).mail.length Sd]) := S.out.below (below_alloc _ _) S.out.lt
  replace BV : Hid ((w8.alloc (.cells #[.int .i64 (keptS T0).step, .int .i64 (keptS T0).phase, .bool (keptS T0).fresh, .slice Ta (keptS T0).vals.length Tc, .slice Tb (keptS T0).mail.length Td] 28)).ownsRow w.heap.size 5 1 (.slice ba kb0.length bc) kb0.length (kb0.map (Value.int .u8))) := own_below BV.out (below_alloc _ _) (Nat.le_refl _)
  replace RV : Hid ((w8.alloc (.cells #[.int .i64 (keptS T0).step, .int .i64 (keptS T0).phase, .bool (keptS T0).fresh, .slice Ta (keptS T0).vals.length Tc, .slice Tb (keptS T0).mail.length Td] 28)).ownsRow w.heap.size 53 2 (.slice Ra (keptS T0).vals.length Rc) (keptS T0).vals.length ((keptS T0).vals.flatMap encM)) := own_below RV.out (below_alloc _ _) (Nat.le_refl _)
  replace RM : Hid ((w8.alloc (.cells #[.int .i64 (keptS T0).step, .int .i64 (keptS T0).phase, .bool (keptS T0).fresh, .slice Ta (keptS T0).vals.length Tc, .slice Tb (keptS T0).mail.length Td] 28)).ownsRow w.heap.size 62 2 (.slice Rb (keptS T0).mail.length Rd) (keptS T0).mail.length ((keptS T0).mail.flatMap encM)) := own_below RM.out (below_alloc _ _) (Nat.le_refl _)
  replace R : Hid (BX 28 (w8.alloc (.cells #[.int .i64 (keptS T0).step, .int .i64 (keptS T0).phase, .bool (keptS T0).fresh, .slice Ta (keptS T0).vals.length Tc, .slice Tb (keptS T0).mail.length Td] 28)) q2 #[.int .i64 (keptS T0).step, .int .i64 (keptS T0).phase, .bool (keptS T0).fresh, .slice Ra (keptS T0).vals.length Rc, .slice Rb (keptS T0).mail.length Rd]) := R.out.below (below_alloc _ _) R.out.lt
  replace D1 : Hid (DiskR (w8.alloc (.cells #[.int .i64 (keptS T0).step, .int .i64 (keptS T0).phase, .bool (keptS T0).fresh, .slice Ta (keptS T0).vals.length Tc, .slice Tb (keptS T0).mail.length Td] 28)) (.slice D1a ([fN kb0]).length D1c) ([fN kb0])) := D1.out.below (below_alloc _ _) (Nat.le_refl _)
  replace D : Hid (BX 39 (w8.alloc (.cells #[.int .i64 (keptS T0).step, .int .i64 (keptS T0).phase, .bool (keptS T0).fresh, .slice Ta (keptS T0).vals.length Tc, .slice Tb (keptS T0).mail.length Td] 28)) q3 #[.slice D3a ([fS p kb0]).length D3c]) := D.out.below (below_alloc _ _) D.out.lt
  replace D2 : Hid (DiskR (w8.alloc (.cells #[.int .i64 (keptS T0).step, .int .i64 (keptS T0).phase, .bool (keptS T0).fresh, .slice Ta (keptS T0).vals.length Tc, .slice Tb (keptS T0).mail.length Td] 28)) (.slice D2a ([fS p kb0]).length D2c) ([fS p kb0])) := D2.out.below (below_alloc _ _) (Nat.le_refl _)
  replace D3 : Hid (DiskR (w8.alloc (.cells #[.int .i64 (keptS T0).step, .int .i64 (keptS T0).phase, .bool (keptS T0).fresh, .slice Ta (keptS T0).vals.length Tc, .slice Tb (keptS T0).mail.length Td] 28)) (.slice D3a ([fS p kb0]).length D3c) ([fS p kb0])) := D3.out.below (below_alloc _ _) (Nat.le_refl _)
  replace TV : Hid ((w8.alloc (.cells #[.int .i64 (keptS T0).step, .int .i64 (keptS T0).phase, .bool (keptS T0).fresh, .slice Ta (keptS T0).vals.length Tc, .slice Tb (keptS T0).mail.length Td] 28)).ownsRow w.heap.size 53 2 (.slice Ta (keptS T0).vals.length Tc) (keptS T0).vals.length ((keptS T0).vals.flatMap encM)) := own_below TV.out (below_alloc _ _) (Nat.le_refl _)
  replace TM : Hid ((w8.alloc (.cells #[.int .i64 (keptS T0).step, .int .i64 (keptS T0).phase, .bool (keptS T0).fresh, .slice Ta (keptS T0).vals.length Tc, .slice Tb (keptS T0).mail.length Td] 28)).ownsRow w.heap.size 62 2 (.slice Tb (keptS T0).mail.length Td) (keptS T0).mail.length ((keptS T0).mail.flatMap encM)) := own_below TM.out (below_alloc _ _) (Nat.le_refl _)
  have T : Hid (BX 28 (w8.alloc (.cells #[.int .i64 (keptS T0).step, .int .i64 (keptS T0).phase, .bool (keptS T0).fresh, .slice Ta (keptS T0).vals.length Tc, .slice Tb (keptS T0).mail.length Td] 28)) w8.heap.size #[.int .i64 (keptS T0).step, .int .i64 (keptS T0).phase, .bool (keptS T0).fresh, .slice Ta (keptS T0).vals.length Tc, .slice Tb (keptS T0).mail.length Td]) := BX.new _ _ _
  have l_q4 : w.heap.size ≤ w8.heap.size := L9
  clear L9
  have n_X0_q4 : w.heap.size < w8.heap.size := M9_X0
  clear M9_X0
  have n_S_q4 : q1 < w8.heap.size := M9_S
  clear M9_S
  have n_R_q4 : q2 < w8.heap.size := M9_R
  clear M9_R
  have n_D_q4 : q3 < w8.heap.size := M9_D
  clear M9_D
  go_upto_region 9 with fail
  generalize w8.alloc (.cells #[.int .i64 (keptS T0).step, .int .i64 (keptS T0).phase, .bool (keptS T0).fresh, .slice Ta (keptS T0).vals.length Tc, .slice Tb (keptS T0).mail.length Td] 28) = w8n at *
  generalize w8.heap.size = q4 at *
  have z10_0 : w8n.cell? ⟨q1, 0, none⟩ = some (.int .i64 (keptS T0).step) := S.out.cell 0
  have z10_1 : w8n.cell? ⟨q1, 1, none⟩ = some (.int .i64 (keptS T0).phase) := S.out.cell 1
  have z10_2 : w8n.cell? ⟨q1, 2, none⟩ = some (.bool (keptS T0).fresh) := S.out.cell 2
  have z10_3 : w8n.cell? ⟨q1, 3, none⟩ = some (.slice Sa (keptS T0).vals.length Sc) := S.out.cell 3
  have z10_4 : w8n.cell? ⟨q1, 4, none⟩ = some (.slice Sb (keptS T0).mail.length Sd) := S.out.cell 4
  have z11_0 : w8n.cell? ⟨q2, 0, none⟩ = some (.int .i64 (keptS T0).step) := R.out.cell 0
  have z11_1 : w8n.cell? ⟨q2, 1, none⟩ = some (.int .i64 (keptS T0).phase) := R.out.cell 1
  have z11_2 : w8n.cell? ⟨q2, 2, none⟩ = some (.bool (keptS T0).fresh) := R.out.cell 2
  have z11_3 : w8n.cell? ⟨q2, 3, none⟩ = some (.slice Ra (keptS T0).vals.length Rc) := R.out.cell 3
  have z11_4 : w8n.cell? ⟨q2, 4, none⟩ = some (.slice Rb (keptS T0).mail.length Rd) := R.out.cell 4
  have z12_0 : w8n.cell? ⟨q4, 0, none⟩ = some (.int .i64 (keptS T0).step) := T.out.cell 0
  have z12_1 : w8n.cell? ⟨q4, 1, none⟩ = some (.int .i64 (keptS T0).phase) := T.out.cell 1
  have z12_2 : w8n.cell? ⟨q4, 2, none⟩ = some (.bool (keptS T0).fresh) := T.out.cell 2
  have z12_3 : w8n.cell? ⟨q4, 3, none⟩ = some (.slice Ta (keptS T0).vals.length Tc) := T.out.cell 3
  have z12_4 : w8n.cell? ⟨q4, 4, none⟩ = some (.slice Tb (keptS T0).mail.length Td) := T.out.cell 4
  have z13_0 : w8n.cell? ⟨w.heap.size, 0, none⟩ = some (.int .i64 T0.step) := X0.out.cell 0
  have z13_1 : w8n.cell? ⟨w.heap.size, 1, none⟩ = some (.int .i64 T0.phase) := X0.out.cell 1
  have z13_2 : w8n.cell? ⟨w.heap.size, 2, none⟩ = some (.bool T0.fresh) := X0.out.cell 2
  have z13_3 : w8n.cell? ⟨w.heap.size, 3, none⟩ = some (.slice a0 T0.vals.length c0) := X0.out.cell 3
  have z13_4 : w8n.cell? ⟨w.heap.size, 4, none⟩ = some (.slice b0 T0.mail.length d0) := X0.out.cell 4
  by_cases hm : T0.mail.length ≤ 20
  · have tm : (((keptS T0).mail.length : Int) == min ((T0.mail.length : Nat) : Int) 20) = true := by have h9 := hcn0.out; simp only [beq_iff_eq]; omega
    clear hcn0
    go_wp2_with fail
    refine (CT.out _ _ _ _ _ _ _ (RowK.own encM_len RV.out) (RowK.own encM_len RM.out) (RowK.own encM_len SV.out) (RowK.own encM_len SM.out)).mono ?_
    rintro e wA ⟨r, rfl, hr, hb⟩
    obtain rfl : r = true := hr rfl
    replace LB : Hid (Below w.heap.size w wA) := LB.out.trans (hb.mono LB.out.size)
    replace X0 : Hid (BX 24 wA w.heap.size #[.int .i64 T0.step, .int .i64 T0.phase, .bool T0.fresh, .slice a0 T0.vals.length c0, .slice b0 T0.mail.length d0]) := X0.out.below hb X0.out.lt
    replace SV : Hid (wA.ownsRow w.heap.size 53 2 (.slice Sa (keptS T0).vals.length Sc) (keptS T0).vals.length ((keptS T0).vals.flatMap encM)) := own_below SV.out hb (Nat.le_refl _)
    replace SM : Hid (wA.ownsRow w.heap.size 62 2 (.slice Sb (keptS T0).mail.length Sd) (keptS T0).mail.length ((keptS T0).mail.flatMap encM)) := own_below SM.out hb (Nat.le_refl _)
    replace S : Hid (BX 28 wA q1 #[.int .i64 (keptS T0).step, .int .i64 (keptS T0).phase, .bool (keptS T0).fresh, .slice Sa (keptS T0).vals.length Sc, .slice Sb (keptS T0).mail.length Sd]) := S.out.below hb S.out.lt
    replace BV : Hid (wA.ownsRow w.heap.size 5 1 (.slice ba kb0.length bc) kb0.length (kb0.map (Value.int .u8))) := own_below BV.out hb (Nat.le_refl _)
    replace RV : Hid (wA.ownsRow w.heap.size 53 2 (.slice Ra (keptS T0).vals.length Rc) (keptS T0).vals.length ((keptS T0).vals.flatMap encM)) := own_below RV.out hb (Nat.le_refl _)
    replace RM : Hid (wA.ownsRow w.heap.size 62 2 (.slice Rb (keptS T0).mail.length Rd) (keptS T0).mail.length ((keptS T0).mail.flatMap encM)) := own_below RM.out hb (Nat.le_refl _)
    replace R : Hid (BX 28 wA q2 #[.int .i64 (keptS T0).step, .int .i64 (keptS T0).phase, .bool (keptS T0).fresh, .slice Ra (keptS T0).vals.length Rc, .slice Rb (keptS T0).mail.length Rd]) := R.out.below hb R.out.lt
    replace D1 : Hid (DiskR wA (.slice D1a ([fN kb0]).length D1c) ([fN kb0])) := D1.out.below hb (Nat.le_refl _)
    replace D : Hid (BX 39 wA q3 #[.slice D3a ([fS p kb0]).length D3c]) := D.out.below hb D.out.lt
    replace D2 : Hid (DiskR wA (.slice D2a ([fS p kb0]).length D2c) ([fS p kb0])) := D2.out.below hb (Nat.le_refl _)
    replace D3 : Hid (DiskR wA (.slice D3a ([fS p kb0]).length D3c) ([fS p kb0])) := D3.out.below hb (Nat.le_refl _)
    replace TV : Hid (wA.ownsRow w.heap.size 53 2 (.slice Ta (keptS T0).vals.length Tc) (keptS T0).vals.length ((keptS T0).vals.flatMap encM)) := own_below TV.out hb (Nat.le_refl _)
    replace TM : Hid (wA.ownsRow w.heap.size 62 2 (.slice Tb (keptS T0).mail.length Td) (keptS T0).mail.length ((keptS T0).mail.flatMap encM)) := own_below TM.out hb (Nat.le_refl _)
    replace T : Hid (BX 28 wA q4 #[.int .i64 (keptS T0).step, .int .i64 (keptS T0).phase, .bool (keptS T0).fresh, .slice Ta (keptS T0).vals.length Tc, .slice Tb (keptS T0).mail.length Td]) := T.out.below hb T.out.lt
    clear hb hr z10_0 z10_1 z10_2 z10_3 z10_4 z11_0 z11_1 z11_2 z11_3 z11_4 z12_0 z12_1 z12_2 z12_3 z12_4 z13_0 z13_1 z13_2 z13_3 z13_4
    have z64_0 : wA.cell? ⟨q1, 0, none⟩ = some (.int .i64 (keptS T0).step) := S.out.cell 0
    have z64_1 : wA.cell? ⟨q1, 1, none⟩ = some (.int .i64 (keptS T0).phase) := S.out.cell 1
    have z64_2 : wA.cell? ⟨q1, 2, none⟩ = some (.bool (keptS T0).fresh) := S.out.cell 2
    have z64_3 : wA.cell? ⟨q1, 3, none⟩ = some (.slice Sa (keptS T0).vals.length Sc) := S.out.cell 3
    have z64_4 : wA.cell? ⟨q1, 4, none⟩ = some (.slice Sb (keptS T0).mail.length Sd) := S.out.cell 4
    have z65_0 : wA.cell? ⟨q2, 0, none⟩ = some (.int .i64 (keptS T0).step) := R.out.cell 0
    have z65_1 : wA.cell? ⟨q2, 1, none⟩ = some (.int .i64 (keptS T0).phase) := R.out.cell 1
    have z65_2 : wA.cell? ⟨q2, 2, none⟩ = some (.bool (keptS T0).fresh) := R.out.cell 2
    have z65_3 : wA.cell? ⟨q2, 3, none⟩ = some (.slice Ra (keptS T0).vals.length Rc) := R.out.cell 3
    have z65_4 : wA.cell? ⟨q2, 4, none⟩ = some (.slice Rb (keptS T0).mail.length Rd) := R.out.cell 4
    have z66_0 : wA.cell? ⟨q4, 0, none⟩ = some (.int .i64 (keptS T0).step) := T.out.cell 0
    have z66_1 : wA.cell? ⟨q4, 1, none⟩ = some (.int .i64 (keptS T0).phase) := T.out.cell 1
    have z66_2 : wA.cell? ⟨q4, 2, none⟩ = some (.bool (keptS T0).fresh) := T.out.cell 2
    have z66_3 : wA.cell? ⟨q4, 3, none⟩ = some (.slice Ta (keptS T0).vals.length Tc) := T.out.cell 3
    have z66_4 : wA.cell? ⟨q4, 4, none⟩ = some (.slice Tb (keptS T0).mail.length Td) := T.out.cell 4
    have z67_0 : wA.cell? ⟨w.heap.size, 0, none⟩ = some (.int .i64 T0.step) := X0.out.cell 0
    have z67_1 : wA.cell? ⟨w.heap.size, 1, none⟩ = some (.int .i64 T0.phase) := X0.out.cell 1
    have z67_2 : wA.cell? ⟨w.heap.size, 2, none⟩ = some (.bool T0.fresh) := X0.out.cell 2
    have z67_3 : wA.cell? ⟨w.heap.size, 3, none⟩ = some (.slice a0 T0.vals.length c0) := X0.out.cell 3
    have z67_4 : wA.cell? ⟨w.heap.size, 4, none⟩ = some (.slice b0 T0.mail.length d0) := X0.out.cell 4
    go_wp2_with fail
    refine (CT.out _ _ _ _ _ _ _ (RowK.own encM_len TV.out) (RowK.own encM_len TM.out) (RowK.own encM_len SV.out) (RowK.own encM_len SM.out)).mono ?_
    rintro e wB ⟨r, rfl, hr, hb⟩
    obtain rfl : r = true := hr rfl
    replace LB : Hid (Below w.heap.size w wB) := LB.out.trans (hb.mono LB.out.size)
    replace X0 : Hid (BX 24 wB w.heap.size #[.int .i64 T0.step, .int .i64 T0.phase, .bool T0.fresh, .slice a0 T0.vals.length c0, .slice b0 T0.mail.length d0]) := X0.out.below hb X0.out.lt
    replace SV : Hid (wB.ownsRow w.heap.size 53 2 (.slice Sa (keptS T0).vals.length Sc) (keptS T0).vals.length ((keptS T0).vals.flatMap encM)) := own_below SV.out hb (Nat.le_refl _)
    replace SM : Hid (wB.ownsRow w.heap.size 62 2 (.slice Sb (keptS T0).mail.length Sd) (keptS T0).mail.length ((keptS T0).mail.flatMap encM)) := own_below SM.out hb (Nat.le_refl _)
    replace S : Hid (BX 28 wB q1 #[.int .i64 (keptS T0).step, .int .i64 (keptS T0).phase, .bool (keptS T0).fresh, .slice Sa (keptS T0).vals.length Sc, .slice Sb (keptS T0).mail.length Sd]) := S.out.below hb S.out.lt
    replace BV : Hid (wB.ownsRow w.heap.size 5 1 (.slice ba kb0.length bc) kb0.length (kb0.map (Value.int .u8))) := own_below BV.out hb (Nat.le_refl _)
    replace RV : Hid (wB.ownsRow w.heap.size 53 2 (.slice Ra (keptS T0).vals.length Rc) (keptS T0).vals.length ((keptS T0).vals.flatMap encM)) := own_below RV.out hb (Nat.le_refl _)
    replace RM : Hid (wB.ownsRow w.heap.size 62 2 (.slice Rb (keptS T0).mail.length Rd) (keptS T0).mail.length ((keptS T0).mail.flatMap encM)) := own_below RM.out hb (Nat.le_refl _)
    replace R : Hid (BX 28 wB q2 #[.int .i64 (keptS T0).step, .int .i64 (keptS T0).phase, .bool (keptS T0).fresh, .slice Ra (keptS T0).vals.length Rc, .slice Rb (keptS T0).mail.length Rd]) := R.out.below hb R.out.lt
    replace D1 : Hid (DiskR wB (.slice D1a ([fN kb0]).length D1c) ([fN kb0])) := D1.out.below hb (Nat.le_refl _)
    replace D : Hid (BX 39 wB q3 #[.slice D3a ([fS p kb0]).length D3c]) := D.out.below hb D.out.lt
    replace D2 : Hid (DiskR wB (.slice D2a ([fS p kb0]).length D2c) ([fS p kb0])) := D2.out.below hb (Nat.le_refl _)
    replace D3 : Hid (DiskR wB (.slice D3a ([fS p kb0]).length D3c) ([fS p kb0])) := D3.out.below hb (Nat.le_refl _)
    replace TV : Hid (wB.ownsRow w.heap.size 53 2 (.slice Ta (keptS T0).vals.length Tc) (keptS T0).vals.length ((keptS T0).vals.flatMap encM)) := own_below TV.out hb (Nat.le_refl _)
    replace TM : Hid (wB.ownsRow w.heap.size 62 2 (.slice Tb (keptS T0).mail.length Td) (keptS T0).mail.length ((keptS T0).mail.flatMap encM)) := own_below TM.out hb (Nat.le_refl _)
    replace T : Hid (BX 28 wB q4 #[.int .i64 (keptS T0).step, .int .i64 (keptS T0).phase, .bool (keptS T0).fresh, .slice Ta (keptS T0).vals.length Tc, .slice Tb (keptS T0).mail.length Td]) := T.out.below hb T.out.lt
    clear hb hr z64_0 z64_1 z64_2 z64_3 z64_4 z65_0 z65_1 z65_2 z65_3 z65_4 z66_0 z66_1 z66_2 z66_3 z66_4 z67_0 z67_1 z67_2 z67_3 z67_4
    have z68_0 : wB.cell? ⟨q1, 0, none⟩ = some (.int .i64 (keptS T0).step) := S.out.cell 0
    have z68_1 : wB.cell? ⟨q1, 1, none⟩ = some (.int .i64 (keptS T0).phase) := S.out.cell 1
    have z68_2 : wB.cell? ⟨q1, 2, none⟩ = some (.bool (keptS T0).fresh) := S.out.cell 2
    have z68_3 : wB.cell? ⟨q1, 3, none⟩ = some (.slice Sa (keptS T0).vals.length Sc) := S.out.cell 3
    have z68_4 : wB.cell? ⟨q1, 4, none⟩ = some (.slice Sb (keptS T0).mail.length Sd) := S.out.cell 4
    have z69_0 : wB.cell? ⟨q2, 0, none⟩ = some (.int .i64 (keptS T0).step) := R.out.cell 0
    have z69_1 : wB.cell? ⟨q2, 1, none⟩ = some (.int .i64 (keptS T0).phase) := R.out.cell 1
    have z69_2 : wB.cell? ⟨q2, 2, none⟩ = some (.bool (keptS T0).fresh) := R.out.cell 2
    have z69_3 : wB.cell? ⟨q2, 3, none⟩ = some (.slice Ra (keptS T0).vals.length Rc) := R.out.cell 3
    have z69_4 : wB.cell? ⟨q2, 4, none⟩ = some (.slice Rb (keptS T0).mail.length Rd) := R.out.cell 4
    have z70_0 : wB.cell? ⟨q4, 0, none⟩ = some (.int .i64 (keptS T0).step) := T.out.cell 0
    have z70_1 : wB.cell? ⟨q4, 1, none⟩ = some (.int .i64 (keptS T0).phase) := T.out.cell 1
    have z70_2 : wB.cell? ⟨q4, 2, none⟩ = some (.bool (keptS T0).fresh) := T.out.cell 2
    have z70_3 : wB.cell? ⟨q4, 3, none⟩ = some (.slice Ta (keptS T0).vals.length Tc) := T.out.cell 3
    have z70_4 : wB.cell? ⟨q4, 4, none⟩ = some (.slice Tb (keptS T0).mail.length Td) := T.out.cell 4
    have z71_0 : wB.cell? ⟨w.heap.size, 0, none⟩ = some (.int .i64 T0.step) := X0.out.cell 0
    have z71_1 : wB.cell? ⟨w.heap.size, 1, none⟩ = some (.int .i64 T0.phase) := X0.out.cell 1
    have z71_2 : wB.cell? ⟨w.heap.size, 2, none⟩ = some (.bool T0.fresh) := X0.out.cell 2
    have z71_3 : wB.cell? ⟨w.heap.size, 3, none⟩ = some (.slice a0 T0.vals.length c0) := X0.out.cell 3
    have z71_4 : wB.cell? ⟨w.heap.size, 4, none⟩ = some (.slice b0 T0.mail.length d0) := X0.out.cell 4
    go_wp2_with fail
    go_ret
    exact ⟨rfl, LB.out⟩
  · have tm : (((keptS T0).mail.length : Int) == min ((T0.mail.length : Nat) : Int) 20) = true := by have h9 := hcn0.out; simp only [beq_iff_eq]; omega
    clear hcn0
    go_wp2_with fail
    refine (CT.out _ _ _ _ _ _ _ (RowK.own encM_len RV.out) (RowK.own encM_len RM.out) (RowK.own encM_len SV.out) (RowK.own encM_len SM.out)).mono ?_
    rintro e wA ⟨r, rfl, hr, hb⟩
    obtain rfl : r = true := hr rfl
    replace LB : Hid (Below w.heap.size w wA) := LB.out.trans (hb.mono LB.out.size)
    replace X0 : Hid (BX 24 wA w.heap.size #[.int .i64 T0.step, .int .i64 T0.phase, .bool T0.fresh, .slice a0 T0.vals.length c0, .slice b0 T0.mail.length d0]) := X0.out.below hb X0.out.lt
    replace SV : Hid (wA.ownsRow w.heap.size 53 2 (.slice Sa (keptS T0).vals.length Sc) (keptS T0).vals.length ((keptS T0).vals.flatMap encM)) := own_below SV.out hb (Nat.le_refl _)
    replace SM : Hid (wA.ownsRow w.heap.size 62 2 (.slice Sb (keptS T0).mail.length Sd) (keptS T0).mail.length ((keptS T0).mail.flatMap encM)) := own_below SM.out hb (Nat.le_refl _)
    replace S : Hid (BX 28 wA q1 #[.int .i64 (keptS T0).step, .int .i64 (keptS T0).phase, .bool (keptS T0).fresh, .slice Sa (keptS T0).vals.length Sc, .slice Sb (keptS T0).mail.length Sd]) := S.out.below hb S.out.lt
    replace BV : Hid (wA.ownsRow w.heap.size 5 1 (.slice ba kb0.length bc) kb0.length (kb0.map (Value.int .u8))) := own_below BV.out hb (Nat.le_refl _)
    replace RV : Hid (wA.ownsRow w.heap.size 53 2 (.slice Ra (keptS T0).vals.length Rc) (keptS T0).vals.length ((keptS T0).vals.flatMap encM)) := own_below RV.out hb (Nat.le_refl _)
    replace RM : Hid (wA.ownsRow w.heap.size 62 2 (.slice Rb (keptS T0).mail.length Rd) (keptS T0).mail.length ((keptS T0).mail.flatMap encM)) := own_below RM.out hb (Nat.le_refl _)
    replace R : Hid (BX 28 wA q2 #[.int .i64 (keptS T0).step, .int .i64 (keptS T0).phase, .bool (keptS T0).fresh, .slice Ra (keptS T0).vals.length Rc, .slice Rb (keptS T0).mail.length Rd]) := R.out.below hb R.out.lt
    replace D1 : Hid (DiskR wA (.slice D1a ([fN kb0]).length D1c) ([fN kb0])) := D1.out.below hb (Nat.le_refl _)
    replace D : Hid (BX 39 wA q3 #[.slice D3a ([fS p kb0]).length D3c]) := D.out.below hb D.out.lt
    replace D2 : Hid (DiskR wA (.slice D2a ([fS p kb0]).length D2c) ([fS p kb0])) := D2.out.below hb (Nat.le_refl _)
    replace D3 : Hid (DiskR wA (.slice D3a ([fS p kb0]).length D3c) ([fS p kb0])) := D3.out.below hb (Nat.le_refl _)
    replace TV : Hid (wA.ownsRow w.heap.size 53 2 (.slice Ta (keptS T0).vals.length Tc) (keptS T0).vals.length ((keptS T0).vals.flatMap encM)) := own_below TV.out hb (Nat.le_refl _)
    replace TM : Hid (wA.ownsRow w.heap.size 62 2 (.slice Tb (keptS T0).mail.length Td) (keptS T0).mail.length ((keptS T0).mail.flatMap encM)) := own_below TM.out hb (Nat.le_refl _)
    replace T : Hid (BX 28 wA q4 #[.int .i64 (keptS T0).step, .int .i64 (keptS T0).phase, .bool (keptS T0).fresh, .slice Ta (keptS T0).vals.length Tc, .slice Tb (keptS T0).mail.length Td]) := T.out.below hb T.out.lt
    clear hb hr z10_0 z10_1 z10_2 z10_3 z10_4 z11_0 z11_1 z11_2 z11_3 z11_4 z12_0 z12_1 z12_2 z12_3 z12_4 z13_0 z13_1 z13_2 z13_3 z13_4
    have z114_0 : wA.cell? ⟨q1, 0, none⟩ = some (.int .i64 (keptS T0).step) := S.out.cell 0
    have z114_1 : wA.cell? ⟨q1, 1, none⟩ = some (.int .i64 (keptS T0).phase) := S.out.cell 1
    have z114_2 : wA.cell? ⟨q1, 2, none⟩ = some (.bool (keptS T0).fresh) := S.out.cell 2
    have z114_3 : wA.cell? ⟨q1, 3, none⟩ = some (.slice Sa (keptS T0).vals.length Sc) := S.out.cell 3
    have z114_4 : wA.cell? ⟨q1, 4, none⟩ = some (.slice Sb (keptS T0).mail.length Sd) := S.out.cell 4
    have z115_0 : wA.cell? ⟨q2, 0, none⟩ = some (.int .i64 (keptS T0).step) := R.out.cell 0
    have z115_1 : wA.cell? ⟨q2, 1, none⟩ = some (.int .i64 (keptS T0).phase) := R.out.cell 1
    have z115_2 : wA.cell? ⟨q2, 2, none⟩ = some (.bool (keptS T0).fresh) := R.out.cell 2
    have z115_3 : wA.cell? ⟨q2, 3, none⟩ = some (.slice Ra (keptS T0).vals.length Rc) := R.out.cell 3
    have z115_4 : wA.cell? ⟨q2, 4, none⟩ = some (.slice Rb (keptS T0).mail.length Rd) := R.out.cell 4
    have z116_0 : wA.cell? ⟨q4, 0, none⟩ = some (.int .i64 (keptS T0).step) := T.out.cell 0
    have z116_1 : wA.cell? ⟨q4, 1, none⟩ = some (.int .i64 (keptS T0).phase) := T.out.cell 1
    have z116_2 : wA.cell? ⟨q4, 2, none⟩ = some (.bool (keptS T0).fresh) := T.out.cell 2
    have z116_3 : wA.cell? ⟨q4, 3, none⟩ = some (.slice Ta (keptS T0).vals.length Tc) := T.out.cell 3
    have z116_4 : wA.cell? ⟨q4, 4, none⟩ = some (.slice Tb (keptS T0).mail.length Td) := T.out.cell 4
    have z117_0 : wA.cell? ⟨w.heap.size, 0, none⟩ = some (.int .i64 T0.step) := X0.out.cell 0
    have z117_1 : wA.cell? ⟨w.heap.size, 1, none⟩ = some (.int .i64 T0.phase) := X0.out.cell 1
    have z117_2 : wA.cell? ⟨w.heap.size, 2, none⟩ = some (.bool T0.fresh) := X0.out.cell 2
    have z117_3 : wA.cell? ⟨w.heap.size, 3, none⟩ = some (.slice a0 T0.vals.length c0) := X0.out.cell 3
    have z117_4 : wA.cell? ⟨w.heap.size, 4, none⟩ = some (.slice b0 T0.mail.length d0) := X0.out.cell 4
    go_wp2_with fail
    refine (CT.out _ _ _ _ _ _ _ (RowK.own encM_len TV.out) (RowK.own encM_len TM.out) (RowK.own encM_len SV.out) (RowK.own encM_len SM.out)).mono ?_
    rintro e wB ⟨r, rfl, hr, hb⟩
    obtain rfl : r = true := hr rfl
    replace LB : Hid (Below w.heap.size w wB) := LB.out.trans (hb.mono LB.out.size)
    replace X0 : Hid (BX 24 wB w.heap.size #[.int .i64 T0.step, .int .i64 T0.phase, .bool T0.fresh, .slice a0 T0.vals.length c0, .slice b0 T0.mail.length d0]) := X0.out.below hb X0.out.lt
    replace SV : Hid (wB.ownsRow w.heap.size 53 2 (.slice Sa (keptS T0).vals.length Sc) (keptS T0).vals.length ((keptS T0).vals.flatMap encM)) := own_below SV.out hb (Nat.le_refl _)
    replace SM : Hid (wB.ownsRow w.heap.size 62 2 (.slice Sb (keptS T0).mail.length Sd) (keptS T0).mail.length ((keptS T0).mail.flatMap encM)) := own_below SM.out hb (Nat.le_refl _)
    replace S : Hid (BX 28 wB q1 #[.int .i64 (keptS T0).step, .int .i64 (keptS T0).phase, .bool (keptS T0).fresh, .slice Sa (keptS T0).vals.length Sc, .slice Sb (keptS T0).mail.length Sd]) := S.out.below hb S.out.lt
    replace BV : Hid (wB.ownsRow w.heap.size 5 1 (.slice ba kb0.length bc) kb0.length (kb0.map (Value.int .u8))) := own_below BV.out hb (Nat.le_refl _)
    replace RV : Hid (wB.ownsRow w.heap.size 53 2 (.slice Ra (keptS T0).vals.length Rc) (keptS T0).vals.length ((keptS T0).vals.flatMap encM)) := own_below RV.out hb (Nat.le_refl _)
    replace RM : Hid (wB.ownsRow w.heap.size 62 2 (.slice Rb (keptS T0).mail.length Rd) (keptS T0).mail.length ((keptS T0).mail.flatMap encM)) := own_below RM.out hb (Nat.le_refl _)
    replace R : Hid (BX 28 wB q2 #[.int .i64 (keptS T0).step, .int .i64 (keptS T0).phase, .bool (keptS T0).fresh, .slice Ra (keptS T0).vals.length Rc, .slice Rb (keptS T0).mail.length Rd]) := R.out.below hb R.out.lt
    replace D1 : Hid (DiskR wB (.slice D1a ([fN kb0]).length D1c) ([fN kb0])) := D1.out.below hb (Nat.le_refl _)
    replace D : Hid (BX 39 wB q3 #[.slice D3a ([fS p kb0]).length D3c]) := D.out.below hb D.out.lt
    replace D2 : Hid (DiskR wB (.slice D2a ([fS p kb0]).length D2c) ([fS p kb0])) := D2.out.below hb (Nat.le_refl _)
    replace D3 : Hid (DiskR wB (.slice D3a ([fS p kb0]).length D3c) ([fS p kb0])) := D3.out.below hb (Nat.le_refl _)
    replace TV : Hid (wB.ownsRow w.heap.size 53 2 (.slice Ta (keptS T0).vals.length Tc) (keptS T0).vals.length ((keptS T0).vals.flatMap encM)) := own_below TV.out hb (Nat.le_refl _)
    replace TM : Hid (wB.ownsRow w.heap.size 62 2 (.slice Tb (keptS T0).mail.length Td) (keptS T0).mail.length ((keptS T0).mail.flatMap encM)) := own_below TM.out hb (Nat.le_refl _)
    replace T : Hid (BX 28 wB q4 #[.int .i64 (keptS T0).step, .int .i64 (keptS T0).phase, .bool (keptS T0).fresh, .slice Ta (keptS T0).vals.length Tc, .slice Tb (keptS T0).mail.length Td]) := T.out.below hb T.out.lt
    clear hb hr z114_0 z114_1 z114_2 z114_3 z114_4 z115_0 z115_1 z115_2 z115_3 z115_4 z116_0 z116_1 z116_2 z116_3 z116_4 z117_0 z117_1 z117_2 z117_3 z117_4
    have z118_0 : wB.cell? ⟨q1, 0, none⟩ = some (.int .i64 (keptS T0).step) := S.out.cell 0
    have z118_1 : wB.cell? ⟨q1, 1, none⟩ = some (.int .i64 (keptS T0).phase) := S.out.cell 1
    have z118_2 : wB.cell? ⟨q1, 2, none⟩ = some (.bool (keptS T0).fresh) := S.out.cell 2
    have z118_3 : wB.cell? ⟨q1, 3, none⟩ = some (.slice Sa (keptS T0).vals.length Sc) := S.out.cell 3
    have z118_4 : wB.cell? ⟨q1, 4, none⟩ = some (.slice Sb (keptS T0).mail.length Sd) := S.out.cell 4
    have z119_0 : wB.cell? ⟨q2, 0, none⟩ = some (.int .i64 (keptS T0).step) := R.out.cell 0
    have z119_1 : wB.cell? ⟨q2, 1, none⟩ = some (.int .i64 (keptS T0).phase) := R.out.cell 1
    have z119_2 : wB.cell? ⟨q2, 2, none⟩ = some (.bool (keptS T0).fresh) := R.out.cell 2
    have z119_3 : wB.cell? ⟨q2, 3, none⟩ = some (.slice Ra (keptS T0).vals.length Rc) := R.out.cell 3
    have z119_4 : wB.cell? ⟨q2, 4, none⟩ = some (.slice Rb (keptS T0).mail.length Rd) := R.out.cell 4
    have z120_0 : wB.cell? ⟨q4, 0, none⟩ = some (.int .i64 (keptS T0).step) := T.out.cell 0
    have z120_1 : wB.cell? ⟨q4, 1, none⟩ = some (.int .i64 (keptS T0).phase) := T.out.cell 1
    have z120_2 : wB.cell? ⟨q4, 2, none⟩ = some (.bool (keptS T0).fresh) := T.out.cell 2
    have z120_3 : wB.cell? ⟨q4, 3, none⟩ = some (.slice Ta (keptS T0).vals.length Tc) := T.out.cell 3
    have z120_4 : wB.cell? ⟨q4, 4, none⟩ = some (.slice Tb (keptS T0).mail.length Td) := T.out.cell 4
    have z121_0 : wB.cell? ⟨w.heap.size, 0, none⟩ = some (.int .i64 T0.step) := X0.out.cell 0
    have z121_1 : wB.cell? ⟨w.heap.size, 1, none⟩ = some (.int .i64 T0.phase) := X0.out.cell 1
    have z121_2 : wB.cell? ⟨w.heap.size, 2, none⟩ = some (.bool T0.fresh) := X0.out.cell 2
    have z121_3 : wB.cell? ⟨w.heap.size, 3, none⟩ = some (.slice a0 T0.vals.length c0) := X0.out.cell 3
    have z121_4 : wB.cell? ⟨w.heap.size, 4, none⟩ = some (.slice b0 T0.mail.length d0) := X0.out.cell 4
    go_wp2_with fail
    go_ret
    exact ⟨rfl, LB.out⟩

set_option maxHeartbeats 400000 in
set_option maxRecDepth 100000 in
theorem lifted (os : Os) (started : os.Started) (H : Type) (enc : TypeId × Value → H) :
    ReturnsInHanded {} Tryz.checked os 3 .any (fun w args => (Rows.ckptBackSpec.pre enc Tryz.prog Tryz.f3 Rows.ckptBackRow.domain false w args ∧ laidMetH Tryz.prog Rows.ckptBackRow.laid w) ∧ sizedMet enc Tryz.prog Tryz.f3 (OpenSpec.ofChange Rows.ckptBackSpec) false w args) (Rows.ckptBackSpec.post enc Tryz.prog Tryz.f3 false true false false) := by
  refine returns_laid (C := Tryz.checked) (X := fun w _ => laidMetH Tryz.prog Rows.ckptBackRow.laid w) (fun _ _ _ hh h => h.of_heap hh) own started (by kernel_rfl) Tryz.func3
    (ChangeSpec.witness_shaped (enc := enc) (C := Tryz.checked) (os := os) (X := fun w _ => laidMetH Tryz.prog Rows.ckptBackRow.laid w) false (World.doorLaid Tryz.prog 400 os) #[.agg #[.int .i64 0, .int .i64 0, .bool false, .slice none 0 0, .slice none 0 0], .int .i64 0, .int .i64 0] 8 rfl (World.shaped_of_RefB (by kernel_rfl) (by kernel_rfl)) (by kernel_rfl) (by kernel_rfl) (by kernel_rfl) (ckptBack_met os _)) ?_
  intro W base args ds gs before hval0 hW _ hsz0 hsh hL _
  have hval : ∀ (j : Nat) t v, Tryz.f3.params[j]? = some t → args[j]? = some v → Value.okWide Tryz.prog W .any base t v := hval0
  have hW' := hW
  obtain ⟨p, q, hA0, hV, rfl, hfz, hnd⟩ := hW
  have hA : DataW.TrodAll enc Tryz.prog W 0 (fun _ => true) true Tryz.f3.params.toList args.toList ds p := hA0
  have hsz : (DataW.weightsEach Tryz.prog (Tryz.f3.params.toList ++ Rows.ckptBackSpec.plain.varTypes Tryz.prog) (ds ++ gs)).all (fun x => decide (x ≤ reachBytes)) = true := hsz0
  rw [Tryz.params3] at hA hval hsz
  obtain ⟨v0, vs0, d0, ds0, p0, q0, hargs, rfl, rfl, h0, r0⟩ := trodAll_cons hA
  obtain ⟨v1, vs1, d1, ds1, p1, q1, rfl, rfl, rfl, h1, r1⟩ := trodAll_cons r0
  obtain ⟨v2, vs2, d2, ds2, p2, q2, rfl, rfl, rfl, h2, r2⟩ := trodAll_cons r1
  obtain ⟨rfl, rfl, rfl⟩ := trodAll_nil r2
  obtain rfl : args = #[v0, v1, v2] := by cases args; simp_all
  obtain ⟨rfl, rfl⟩ := trodVars_none hV
  have k0 := h0
  have lt0 : ∀ x ∈ p0, x.block < W.heap.size := by obtain ⟨m, hm⟩ := k0; exact DataW.trod_lt m _ _ _ hm
  have hw0 : ∀ m ∈ d0.weights Tryz.prog 24, m ≤ reachBytes := fun m hm => by simpa using List.all_eq_true.1 hsz _ (DataW.weights_mem_each (j := 0) (t := 24) rfl rfl m hm)
  have k1 := h1
  have lt1 : ∀ x ∈ p1, x.block < W.heap.size := by obtain ⟨m, hm⟩ := k1; exact DataW.trod_lt m _ _ _ hm
  have k2 := h2
  have lt2 : ∀ x ∈ p2, x.block < W.heap.size := by obtain ⟨m, hm⟩ := k2; exact DataW.trod_lt m _ _ _ hm
  obtain ⟨T0, vv0, vm0, rfl, hN0, hV0, hM0, hB0⟩ := open_kept (okWide_struct Tryz.underlying24 (hval 0 24 v0 rfl rfl)) h0 hw0
  obtain ⟨n1, rfl, _, _, wf1⟩ := open_int Tryz.underlying3 (hval 1 3 v1 rfl rfl) h1
  have hI1 := bounds_i64 wf1
  obtain ⟨n2, rfl, _, _, wf2⟩ := open_int Tryz.underlying3 (hval 2 3 v2 rfl rfl) h2
  have hI2 := bounds_i64 wf2
  clear hA0 hval0
  refine (walk T0 vv0 vm0 n1 n2 W hN0 hV0 hM0 hB0 hI1 hI2 (no_facts hL hsh)).mono fun e W' ⟨he, bel⟩ => ?_
  subst he
  exact ⟨_, rfl, _, _, _, [], _, [], hW', trodAll_mk1 (shut_bool Tryz.underlying4 _), (trodAll_cons_mk (Below.trod laidOut (by kernel_rfl) (of_decide_eq_true (by kernel_rfl)) k0 bel lt0) (trodAll_cons_mk (Below.trod laidOut (by kernel_rfl) (of_decide_eq_true (by kernel_rfl)) k1 bel lt1) (trodAll_cons_mk (Below.trod laidOut (by kernel_rfl) (of_decide_eq_true (by kernel_rfl)) k2 bel lt2) trodAll_mk0))), rfl, bel.frame _, fun h => by cases h⟩

theorem over : Rows.ckptBackRow.holds Tryz.pinned (OpenSpec.ofChange Rows.ckptBackSpec) :=
  OpenClaim.holds_of_wide 3 Tryz.f3 rfl rfl rfl rfl rfl rfl rfl ⟨rfl, rfl, rfl, rfl, rfl⟩ rfl rfl rfl rfl rfl (by kernel_rfl) Tryz.func3 (by kernel_rfl)
    (of_decide_eq_true (by kernel_rfl)) (by unfold Func.isWrapper; first | (rw [if_pos (by decide +kernel)]; kernel_rfl) | (rw [if_neg (by decide +kernel)]; exact ⟨rfl, rfl⟩))
    (fun os started H enc _ => lifted os started H enc)

/-- The card: what the row lists is tied to the program's text. -/
theorem proved : Rows.CkptBackCardSaid :=
  Claim7.holds_tied_plain_at .later [] [.data, .data, .data] true (true, "7589c64c7087c3bf6730f2df7ba050d35ac8eda433249b14bcc41f2a7d036b6d") false
    over (fun _ h => by cases h) (by kernel_rfl) (fun _ h => by cases h) ckptBack_row_tie rfl ⟨rfl, rfl⟩ (by kernel_rfl) rfl
    (fun f fn hf hfn => by
      obtain rfl : f = 3 := Option.some.inj ((show Tryz.prog.funcNamed Rows.ckptBackRow.func = some 3 by kernel_rfl).symm.trans hf) |>.symm
      obtain rfl : fn = Tryz.f3 := (Option.some.inj (Tryz.func3.symm.trans hfn)).symm
      exact ⟨by kernel_rfl, fun j t ht => by
        rw [Tryz.params3] at ht
        rcases j with _ | j
        · obtain rfl : t = 24 := by simpa using ht.symm
          exact (show Tryz.prog.wantsStandIn 24 = false by kernel_rfl)
        rcases j with _ | j
        · obtain rfl : t = 3 := by simpa using ht.symm
          exact (show Tryz.prog.wantsStandIn 3 = false by kernel_rfl)
        rcases j with _ | j
        · obtain rfl : t = 3 := by simpa using ht.symm
          exact (show Tryz.prog.wantsStandIn 3 = false by kernel_rfl)
        simp at ht⟩)
    (by kernel_rfl)
#print axioms proved
end Go.Proofs.YtkgdenbabafeoaaGreatDoor.ckptBack
