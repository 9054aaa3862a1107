/-
  For all raw numbers: the newest that is not too new is found (the law CkptNewest returns true, and its arguments read as before). The package variables that the row lists read as their initialisers lay them, which the card ties to the text; no other condition.
-/
import Derived.Test.YtkgdenbabafeoaaGreatDoorCkptNewestPartB
import Derived.Test.YtkgdenbabafeoaaGreatDoorCkptNewestPartC
import Derived.Test.YtkgdenbabafeoaaGreatDoorCkptNewestPartA
import Derived.Test.YtkgdenbabafeoaaGreatDoorTie
import Derived.Test.YtkgdenbabafeoaaGreatDoorCards
import Derived.WalkKit
import Derived.ProofKit
import Derived.OpenShut
import Derived.ShutString
import Derived.SizedLaws
import Derived.ChangeOld
import Derived.Below
import Derived.SevenTiedAt
namespace Go.Proofs.YtkgdenbabafeoaaGreatDoor.ckptNewest
set_option maxRecDepth 100000
open Go.ChangeShapes Go.WideShapes Go.ChangeAt Go.RowKit

theorem own : ownKnob Tryz.prog.godebug = none := by kernel_rfl
theorem laidOut : laidOutB Tryz.prog = true := by kernel_rfl

set_option maxHeartbeats 32000000 in
set_option maxRecDepth 100000 in
theorem walk (T0 : SvS) (vv0 vm0 : Value) (T1 : SvS) (vv1 vm1 : Value) (n2 : Int) (n3 : Int) (w : World) (hN0 : i64B T0.step ∧ i64B T0.phase) (hV0 : MlR w vv0 T0.vals) (hM0 : MlR w vm0 T0.mail) (hB0 : SavB T0) (hN1 : i64B T1.step ∧ i64B T1.phase) (hV1 : MlR w vv1 T1.vals) (hM1 : MlR w vm1 T1.mail) (hB1 : SavB T1) (hI2 : -9223372036854775808 ≤ n2 ∧ n2 ≤ 9223372036854775807) (hI3 : -9223372036854775808 ≤ n3 ∧ n3 ≤ 9223372036854775807) (hF : NoF w) :
    Calls Tryz.prog 5 #[.agg #[.int .i64 T0.step, .int .i64 T0.phase, .bool T0.fresh, vv0, vm0], .agg #[.int .i64 T1.step, .int .i64 T1.phase, .bool T1.fresh, vv1, vm1], .int .i64 n2, .int .i64 n3] w fun e w' => e = .returned (.bool true) ∧ Below w.heap.size w w' := by
  have _u := hN0
  clear _u
  have _u := hV0
  clear _u
  have _u := hM0
  clear _u
  have _u := hB0
  clear _u
  have _u := hN1
  clear _u
  have _u := hV1
  clear _u
  have _u := hM1
  clear _u
  have _u := hB1
  clear _u
  have _u := hI2
  clear _u
  have _u := hI3
  clear _u
  have _u := hF
  clear _u hF
  have HV0 : Hid (MlR w vv0 T0.vals) := hV0
  have HM0 : Hid (MlR w vm0 T0.mail) := hM0
  obtain ⟨a0, c0, rfl⟩ := hV0.shape
  obtain ⟨b0, d0, rfl⟩ := hM0.shape
  have CK0 : Hid (∀ X, Below w.heap.size w X → Calls Tryz.prog 6 #[.agg #[.int .i64 T0.step, .int .i64 T0.phase, .bool T0.fresh, .slice a0 T0.vals.length c0, .slice b0 T0.mail.length d0]] X (SvkP X (keptS T0))) := fun X h => kept_any T0 _ _ X (HV0.out.below h (Nat.le_refl _)) (HM0.out.below h (Nat.le_refl _)) hN0 hB0
  have hl0 := kb_len T0
  have hcn0 : Hid ((keptS T0).mail.length = min T0.mail.length 20) := kept_count T0
  have HKB0 : Hid (∀ m ∈ (keptS T0).mail, mlB m) := kept_mlB T0
  have HBY0 : Hid (∀ y ∈ kb T0, 0 ≤ y ∧ y ≤ 255) := kb_bytes T0
  have HEN0 : Hid (encS (keptS T0) = (kb T0, 0)) := kept_enc T0
  have HV1 : Hid (MlR w vv1 T1.vals) := hV1
  have HM1 : Hid (MlR w vm1 T1.mail) := hM1
  obtain ⟨a1, c1, rfl⟩ := hV1.shape
  obtain ⟨b1, d1, rfl⟩ := hM1.shape
  have CK1 : Hid (∀ X, Below w.heap.size w X → Calls Tryz.prog 6 #[.agg #[.int .i64 T1.step, .int .i64 T1.phase, .bool T1.fresh, .slice a1 T1.vals.length c1, .slice b1 T1.mail.length d1]] X (SvkP X (keptS T1))) := fun X h => kept_any T1 _ _ X (HV1.out.below h (Nat.le_refl _)) (HM1.out.below h (Nat.le_refl _)) hN1 hB1
  have hl1 := kb_len T1
  have hcn1 : Hid ((keptS T1).mail.length = min T1.mail.length 20) := kept_count T1
  have HKB1 : Hid (∀ m ∈ (keptS T1).mail, mlB m) := kept_mlB T1
  have HBY1 : Hid (∀ y ∈ kb T1, 0 ≤ y ∧ y ≤ 255) := kb_bytes T1
  have HEN1 : Hid (encS (keptS T1) = (kb T1, 0)) := kept_enc T1
  obtain ⟨p, hp⟩ : ∃ p, pickF n2 2 = p := ⟨_, rfl⟩
  have hp2 : p = 0 ∨ p = 1 := by have := pickF_bd n2 2 (by decide); omega
  have CP : Hid (∀ X, Calls Tryz.prog 7 #[.int .i64 n2, .int .i64 2] X fun e w' => e = .returned (.int .i64 p) ∧ w' = X) := fun X => by rw [← hp]; exact picked_any _ _ X hI2.1 hI2.2 (by decide) (by decide)
  obtain ⟨m, hmm⟩ : ∃ p, pickF n3 100001 = p := ⟨_, rfl⟩
  have CQ : Hid (∀ X, Calls Tryz.prog 7 #[.int .i64 n3, .int .i64 100001] X fun e w' => e = .returned (.int .i64 m) ∧ w' = X) := fun X => by rw [← hmm]; exact picked_any _ _ X hI3.1 hI3.2 (by decide) (by decide)
  have CSD : Hid (∀ X, Below w.heap.size w X → Calls Tryz.prog 15 #[.agg #[.int .i64 T0.step, .int .i64 T0.phase, .bool T0.fresh, .slice a0 T0.vals.length c0, .slice b0 T0.mail.length d0], .agg #[.int .i64 T1.step, .int .i64 T1.phase, .bool T1.fresh, .slice a1 T1.vals.length c1, .slice b1 T1.mail.length d1], .int .i64 n2] X (SldP X [fS p (kb T0), fS (1 - p) (kb T1)])) := fun X h => sealed_any T0 _ _ T1 _ _ n2 p X hN0 (HV0.out.below h (Nat.le_refl _)) (HM0.out.below h (Nat.le_refl _)) hB0 hN1 (HV1.out.below h (Nat.le_refl _)) (HM1.out.below h (Nat.le_refl _)) hB1 hI2 hp hp2
  have CNW : Hid (∀ X u, DiskR X u [fS p (kb T0), fS (1 - p) (kb T1)] → Calls Tryz.prog 16 #[.agg #[u], .int .i64 m] X (SvdP X (newE [fS p (kb T0), fS (1 - p) (kb T1)] m))) := fun X u h1 => ckNewest_any u _ m X h1 (good2 (good_fS (n := p) hl0.2 HBY0.out) (good_fS (n := 1 - p) hl1.2 HBY1.out))
  have HNT := newest_two (x := T0) (y := T1) (m := m) hp2
  have hs0 := kept_stp T0
  have hs1 := kept_stp T1
  have CT : Hid (∀ X (s t : SvS) u1 u2 v1 v2, MlR X u1 s.vals → MlR X u2 s.mail → MlR X v1 t.vals → MlR X v2 t.mail → Calls Tryz.prog 14 #[.agg #[.int .i64 s.step, .int .i64 s.phase, .bool s.fresh, u1, u2], .agg #[.int .i64 t.step, .int .i64 t.phase, .bool t.fresh, v1, v2]] X fun e w' => ∃ r, e = .returned (.bool r) ∧ (s = t → r = true) ∧ Below X.heap.size X w') := fun X s t u1 u2 v1 v2 h1 h2 h3 h4 => sameSavedK_any s t u1 v1 u2 v2 X h1 h3 h2 h4
  generalize newE [fS p (kb T0), fS (1 - p) (kb T1)] m = NR at *
  obtain ⟨gt, te⟩ := NR
  simp only at HNT CNW
  clear hI2 hI3 hp hmm hp2 hV0 hM0 hN0 hB0 HEN0 HKB0 hl0 HBY0 hcn0 hV1 hM1 hN1 hB1 HEN1 HKB1 hl1 HBY1 hcn1
  generalize kb T0 = kb0 at *
  generalize kb T1 = kb1 at *
  obtain ⟨W0, hW0⟩ : ∃ W0, W0 = (w.alloc (.cells #[.int .i64 T0.step, .int .i64 T0.phase, .bool T0.fresh, .slice a0 T0.vals.length c0, .slice b0 T0.mail.length d0] 24)).alloc (.cells #[.int .i64 T1.step, .int .i64 T1.phase, .bool T1.fresh, .slice a1 T1.vals.length c1, .slice b1 T1.mail.length d1] 24) := ⟨_, rfl⟩
  obtain ⟨Q0, Q1, B0, s1, s2⟩ := boxes2 w #[.int .i64 T0.step, .int .i64 T0.phase, .bool T0.fresh, .slice a0 T0.vals.length c0, .slice b0 T0.mail.length d0] #[.int .i64 T1.step, .int .i64 T1.phase, .bool T1.fresh, .slice a1 T1.vals.length c1, .slice b1 T1.mail.length d1] 24 24 W0 hW0
  have LB : Hid (Below w.heap.size w W0) := B0
  have X0 : Hid (BX 24 W0 w.heap.size #[.int .i64 T0.step, .int .i64 T0.phase, .bool T0.fresh, .slice a0 T0.vals.length c0, .slice b0 T0.mail.length d0]) := Q0
  have X1 : Hid (BX 24 W0 (w.heap.size + 1) #[.int .i64 T1.step, .int .i64 T1.phase, .bool T1.fresh, .slice a1 T1.vals.length c1, .slice b1 T1.mail.length d1]) := Q1
  clear B0 Q0 Q1
  have HN : Hid _ := HNT
  clear HNT
  go_enter Tryz.func5, Tryz.ntmps5
  go_upto_region 1 with fail
  rw [← hW0]
  clear hW0
  have z0_0 : W0.cell? ⟨w.heap.size, 0, none⟩ = some (.int .i64 T0.step) := X0.out.cell 0
  have z0_1 : W0.cell? ⟨w.heap.size, 1, none⟩ = some (.int .i64 T0.phase) := X0.out.cell 1
  have z0_2 : W0.cell? ⟨w.heap.size, 2, none⟩ = some (.bool T0.fresh) := X0.out.cell 2
  have z0_3 : W0.cell? ⟨w.heap.size, 3, none⟩ = some (.slice a0 T0.vals.length c0) := X0.out.cell 3
  have z0_4 : W0.cell? ⟨w.heap.size, 4, none⟩ = some (.slice b0 T0.mail.length d0) := X0.out.cell 4
  have z1_0 : W0.cell? ⟨(w.heap.size + 1), 0, none⟩ = some (.int .i64 T1.step) := X1.out.cell 0
  have z1_1 : W0.cell? ⟨(w.heap.size + 1), 1, none⟩ = some (.int .i64 T1.phase) := X1.out.cell 1
  have z1_2 : W0.cell? ⟨(w.heap.size + 1), 2, none⟩ = some (.bool T1.fresh) := X1.out.cell 2
  have z1_3 : W0.cell? ⟨(w.heap.size + 1), 3, none⟩ = some (.slice a1 T1.vals.length c1) := X1.out.cell 3
  have z1_4 : W0.cell? ⟨(w.heap.size + 1), 4, none⟩ = some (.slice b1 T1.mail.length d1) := X1.out.cell 4
  go_wp2_with fail
  refine (CSD.out _ LB.out).mono ?_
  rintro e w1 ⟨v', rfl, hd, hb⟩
  obtain ⟨D1a, D1c, rfl⟩ : ∃ a c, v' = .slice a ([fS p kb0, fS (1 - p) kb1]).length c := by obtain ⟨a, c, e, _⟩ := hd; exact ⟨a, c, e⟩
  replace LB : Hid (Below w.heap.size w w1) := LB.out.trans (hb.mono LB.out.size)
  replace X0 : Hid (BX 24 w1 w.heap.size #[.int .i64 T0.step, .int .i64 T0.phase, .bool T0.fresh, .slice a0 T0.vals.length c0, .slice b0 T0.mail.length d0]) := X0.out.below hb X0.out.lt
  replace X1 : Hid (BX 24 w1 (w.heap.size + 1) #[.int .i64 T1.step, .int .i64 T1.phase, .bool T1.fresh, .slice a1 T1.vals.length c1, .slice b1 T1.mail.length d1]) := X1.out.below hb X1.out.lt
  have D1 : Hid (DiskR w1 (.slice D1a ([fS p kb0, fS (1 - p) kb1]).length D1c) ([fS p kb0, fS (1 - p) kb1])) := hd
  clear hd hb
  clear z0_0 z0_1 z0_2 z0_3 z0_4 z1_0 z1_1 z1_2 z1_3 z1_4
  have L9 := LB.out.size
  have M9_X0 := X0.out.lt
  have M9_X1 := X1.out.lt
  replace LB : Hid (Below w.heap.size w (w1.alloc (.cells #[.slice D1a ([fS p kb0, fS (1 - p) kb1] : List FileL).length D1c] 39))) := LB.out.alloc LB.out.size _
  replace X0 : Hid (BX 24 (w1.alloc (.cells #[.slice D1a ([fS p kb0, fS (1 - p) kb1] : List FileL).length D1c] 39)) w.heap.size #[.int .i64 T0.step, .int .i64 T0.phase, .bool T0.fresh, .slice a0 T0.vals.length c0, .slice b0 T0.mail.length d0]) := X0.out.below (below_alloc _ _) X0.out.lt
  replace X1 : Hid (BX 24 (w1.alloc (.cells #[.slice D1a ([fS p kb0, fS (1 - p) kb1] : List FileL).length D1c] 39)) (w.heap.size + 1) #[.int .i64 T1.step, .int .i64 T1.phase, .bool T1.fresh, .slice a1 T1.vals.length c1, .slice b1 T1.mail.length d1]) := X1.out.below (below_alloc _ _) X1.out.lt
  replace D1 : Hid (DiskR (w1.alloc (.cells #[.slice D1a ([fS p kb0, fS (1 - p) kb1] : List FileL).length D1c] 39)) (.slice D1a ([fS p kb0, fS (1 - p) kb1]).length D1c) ([fS p kb0, fS (1 - p) kb1])) := D1.out.below (below_alloc _ _) (Nat.le_refl _)
  have D : Hid (BX 39 (w1.alloc (.cells #[.slice D1a ([fS p kb0, fS (1 - p) kb1] : List FileL).length D1c] 39)) w1.heap.size #[.slice D1a ([fS p kb0, fS (1 - p) kb1] : List FileL).length D1c]) := BX.new _ _ _
  have l_q1 : w.heap.size ≤ w1.heap.size := L9
  clear L9
  have n_X0_q1 : w.heap.size < w1.heap.size := M9_X0
  clear M9_X0
  have n_X1_q1 : (w.heap.size + 1) < w1.heap.size := M9_X1
  clear M9_X1
  go_upto_region 2 with fail
  generalize w1.alloc (.cells #[.slice D1a ([fS p kb0, fS (1 - p) kb1] : List FileL).length D1c] 39) = w1n at *
  generalize w1.heap.size = q1 at *
  have z2_0 : w1n.cell? ⟨w.heap.size, 0, none⟩ = some (.int .i64 T0.step) := X0.out.cell 0
  have z2_1 : w1n.cell? ⟨w.heap.size, 1, none⟩ = some (.int .i64 T0.phase) := X0.out.cell 1
  have z2_2 : w1n.cell? ⟨w.heap.size, 2, none⟩ = some (.bool T0.fresh) := X0.out.cell 2
  have z2_3 : w1n.cell? ⟨w.heap.size, 3, none⟩ = some (.slice a0 T0.vals.length c0) := X0.out.cell 3
  have z2_4 : w1n.cell? ⟨w.heap.size, 4, none⟩ = some (.slice b0 T0.mail.length d0) := X0.out.cell 4
  go_wp2_with fail
  refine (CK0.out _ LB.out).mono ?_
  rintro e w2 ⟨v1, v2, rfl, ho1, ho2, hb⟩
  obtain ⟨Aa, Ac, rfl⟩ := (RowK.own encM_len ho1 : MlR w2 v1 (keptS T0).vals).shape
  obtain ⟨Ab, Ad, rfl⟩ := (RowK.own encM_len ho2 : MlR w2 v2 (keptS T0).mail).shape
  have hle := LB.out.size
  replace LB : Hid (Below w.heap.size w w2) := LB.out.trans (hb.mono LB.out.size)
  replace X0 : Hid (BX 24 w2 w.heap.size #[.int .i64 T0.step, .int .i64 T0.phase, .bool T0.fresh, .slice a0 T0.vals.length c0, .slice b0 T0.mail.length d0]) := X0.out.below hb X0.out.lt
  replace X1 : Hid (BX 24 w2 (w.heap.size + 1) #[.int .i64 T1.step, .int .i64 T1.phase, .bool T1.fresh, .slice a1 T1.vals.length c1, .slice b1 T1.mail.length d1]) := X1.out.below hb X1.out.lt
  replace D1 : Hid (DiskR w2 (.slice D1a ([fS p kb0, fS (1 - p) kb1]).length D1c) ([fS p kb0, fS (1 - p) kb1])) := D1.out.below hb (Nat.le_refl _)
  replace D : Hid (BX 39 w2 q1 #[.slice D1a ([fS p kb0, fS (1 - p) kb1] : List FileL).length D1c]) := D.out.below hb D.out.lt
  have AV : Hid (w2.ownsRow w.heap.size 53 2 (.slice Aa (keptS T0).vals.length Ac) (keptS T0).vals.length ((keptS T0).vals.flatMap encM)) := own_lower ho1 hle
  have AM : Hid (w2.ownsRow w.heap.size 62 2 (.slice Ab (keptS T0).mail.length Ad) (keptS T0).mail.length ((keptS T0).mail.flatMap encM)) := own_lower ho2 hle
  clear ho1 ho2 hb hle z2_0 z2_1 z2_2 z2_3 z2_4
  have L9 := LB.out.size
  have M9_X0 := X0.out.lt
  have M9_X1 := X1.out.lt
  have M9_D := D.out.lt
  replace LB : Hid (Below w.heap.size w (w2.alloc (.cells #[.int .i64 (keptS T0).step, .int .i64 (keptS T0).phase, .bool (keptS T0).fresh, .slice Aa (keptS T0).vals.length Ac, .slice Ab (keptS T0).mail.length Ad] 28))) := LB.out.alloc LB.out.size _
  replace X0 : Hid (BX 24 (w2.alloc (.cells #[.int .i64 (keptS T0).step, .int .i64 (keptS T0).phase, .bool (keptS T0).fresh, .slice Aa (keptS T0).vals.length Ac, .slice Ab (keptS T0).mail.length Ad] 28)) w.heap.size #[.int .i64 T0.step, .int .i64 T0.phase, .bool T0.fresh, .slice a0 T0.vals.length c0, .slice b0 T0.mail.length d0]) := X0.out.below (below_alloc _ _) X0.out.lt
  replace X1 : Hid (BX 24 (w2.alloc (.cells #[.int .i64 (keptS T0).step, .int .i64 (keptS T0).phase, .bool (keptS T0).fresh, .slice Aa (keptS T0).vals.length Ac, .slice Ab (keptS T0).mail.length Ad] 28)) (w.heap.size + 1) #[.int .i64 T1.step, .int .i64 T1.phase, .bool T1.fresh, .slice a1 T1.vals.length c1, .slice b1 T1.mail.length d1]) := X1.out.below (below_alloc _ _) X1.out.lt
  replace D1 : Hid (DiskR (w2.alloc (.cells #[.int .i64 (keptS T0).step, .int .i64 (keptS T0).phase, .bool (keptS T0).fresh, .slice Aa (keptS T0).vals.length Ac, .slice Ab (keptS T0).mail.length Ad] 28)) (.slice D1a ([fS p kb0, fS (1 - p) kb1]).length D1c) ([fS p kb0, fS (1 - p) kb1])) := D1.out.below (below_alloc _ _) (Nat.le_refl _)
  replace D : Hid (BX 39 (w2.alloc (.cells #[.int .i64 (keptS T0).step, .int .i64 (keptS T0).phase, .bool (keptS T0).fresh, .slice Aa (keptS T0).vals.length Ac, .slice Ab (keptS T0).mail.length Ad] 28)) q1 #[.slice D1a ([fS p kb0, fS (1 - p) kb1] : List FileL).length D1c]) := D.out.below (below_alloc _ _) D.out.lt
  replace AV : Hid ((w2.alloc (.cells #[.int .i64 (keptS T0).step, .int .i64 (keptS T0).phase, .bool (keptS T0).fresh, .slice Aa (keptS T0).vals.length Ac, .slice Ab (keptS T0).mail.length Ad] 28)).ownsRow w.heap.size 53 2 (.slice Aa (keptS T0).vals.length Ac) (keptS T0).vals.length ((keptS T0).vals.flatMap encM)) := own_below AV.out (below_alloc _ _) (Nat.le_refl _)
  replace AM : Hid ((w2.alloc (.cells #[.int .i64 (keptS T0).step, .int .i64 (keptS T0).phase, .bool (keptS T0).fresh, .slice Aa (keptS T0).vals.length Ac, .slice Ab (keptS T0).mail.length Ad] 28)).ownsRow w.heap.size 62 2 (.slice Ab (keptS T0).mail.length Ad) (keptS T0).mail.length ((keptS T0).mail.flatMap encM)) := own_below AM.out (below_alloc _ _) (Nat.le_refl _)
  have A : Hid (BX 28 (w2.alloc (.cells #[.int .i64 (keptS T0).step, .int .i64 (keptS T0).phase, .bool (keptS T0).fresh, .slice Aa (keptS T0).vals.length Ac, .slice Ab (keptS T0).mail.length Ad] 28)) w2.heap.size #[.int .i64 (keptS T0).step, .int .i64 (keptS T0).phase, .bool (keptS T0).fresh, .slice Aa (keptS T0).vals.length Ac, .slice Ab (keptS T0).mail.length Ad]) := BX.new _ _ _
  have l_q2 : w.heap.size ≤ w2.heap.size := L9
  clear L9
  have n_X0_q2 : w.heap.size < w2.heap.size := M9_X0
  clear M9_X0
  have n_X1_q2 : (w.heap.size + 1) < w2.heap.size := M9_X1
  clear M9_X1
  have n_D_q2 : q1 < w2.heap.size := M9_D
  clear M9_D
  go_upto_region 3 with fail
  generalize w2.alloc (.cells #[.int .i64 (keptS T0).step, .int .i64 (keptS T0).phase, .bool (keptS T0).fresh, .slice Aa (keptS T0).vals.length Ac, .slice Ab (keptS T0).mail.length Ad] 28) = w2n at *
  generalize w2.heap.size = q2 at *
  have z3_0 : w2n.cell? ⟨(w.heap.size + 1), 0, none⟩ = some (.int .i64 T1.step) := X1.out.cell 0
  have z3_1 : w2n.cell? ⟨(w.heap.size + 1), 1, none⟩ = some (.int .i64 T1.phase) := X1.out.cell 1
  have z3_2 : w2n.cell? ⟨(w.heap.size + 1), 2, none⟩ = some (.bool T1.fresh) := X1.out.cell 2
  have z3_3 : w2n.cell? ⟨(w.heap.size + 1), 3, none⟩ = some (.slice a1 T1.vals.length c1) := X1.out.cell 3
  have z3_4 : w2n.cell? ⟨(w.heap.size + 1), 4, none⟩ = some (.slice b1 T1.mail.length d1) := X1.out.cell 4
  go_wp2_with fail
  refine (CK1.out _ LB.out).mono ?_
  rintro e w3 ⟨v1, v2, rfl, ho1, ho2, hb⟩
  obtain ⟨Ba, Bc, rfl⟩ := (RowK.own encM_len ho1 : MlR w3 v1 (keptS T1).vals).shape
  obtain ⟨Bb, Bd, rfl⟩ := (RowK.own encM_len ho2 : MlR w3 v2 (keptS T1).mail).shape
  have hle := LB.out.size
  replace LB : Hid (Below w.heap.size w w3) := LB.out.trans (hb.mono LB.out.size)
  replace X0 : Hid (BX 24 w3 w.heap.size #[.int .i64 T0.step, .int .i64 T0.phase, .bool T0.fresh, .slice a0 T0.vals.length c0, .slice b0 T0.mail.length d0]) := X0.out.below hb X0.out.lt
  replace X1 : Hid (BX 24 w3 (w.heap.size + 1) #[.int .i64 T1.step, .int .i64 T1.phase, .bool T1.fresh, .slice a1 T1.vals.length c1, .slice b1 T1.mail.length d1]) := X1.out.below hb X1.out.lt
  replace D1 : Hid (DiskR w3 (.slice D1a ([fS p kb0, fS (1 - p) kb1]).length D1c) ([fS p kb0, fS (1 - p) kb1])) := D1.out.below hb (Nat.le_refl _)
  replace D : Hid (BX 39 w3 q1 #[.slice D1a ([fS p kb0, fS (1 - p) kb1] : List FileL).length D1c]) := D.out.below hb D.out.lt
  replace AV : Hid (w3.ownsRow w.heap.size 53 2 (.slice Aa (keptS T0).vals.length Ac) (keptS T0).vals.length ((keptS T0).vals.flatMap encM)) := own_below AV.out hb (Nat.le_refl _)
  replace AM : Hid (w3.ownsRow w.heap.size 62 2 (.slice Ab (keptS T0).mail.length Ad) (keptS T0).mail.length ((keptS T0).mail.flatMap encM)) := own_below AM.out hb (Nat.le_refl _)
  replace A : Hid (BX 28 w3 q2 #[.int .i64 (keptS T0).step, .int .i64 (keptS T0).phase, .bool (keptS T0).fresh, .slice Aa (keptS T0).vals.length Ac, .slice Ab (keptS T0).mail.length Ad]) := A.out.below hb A.out.lt
  have BV : Hid (w3.ownsRow w.heap.size 53 2 (.slice Ba (keptS T1).vals.length Bc) (keptS T1).vals.length ((keptS T1).vals.flatMap encM)) := own_lower ho1 hle
  have BM : Hid (w3.ownsRow w.heap.size 62 2 (.slice Bb (keptS T1).mail.length Bd) (keptS T1).mail.length ((keptS T1).mail.flatMap encM)) := own_lower ho2 hle
  clear ho1 ho2 hb hle z3_0 z3_1 z3_2 z3_3 z3_4
  have L9 := LB.out.size
  have M9_X0 := X0.out.lt
  have M9_X1 := X1.out.lt
  have M9_D := D.out.lt
  have M9_A := A.out.lt
  replace LB : Hid (Below w.heap.size w (w3.alloc (.cells #[.int .i64 (keptS T1).step, .int .i64 (keptS T1).phase, .bool (keptS T1).fresh, .slice Ba (keptS T1).vals.length Bc, .slice Bb (keptS T1).mail.length Bd] 28))) := LB.out.alloc LB.out.size _
  replace X0 : Hid (BX 24 (w3.alloc (.cells #[.int .i64 (keptS T1).step, .int .i64 (keptS T1).phase, .bool (keptS T1).fresh, .slice Ba (keptS T1).vals.length Bc, .slice Bb (keptS T1).mail.length Bd] 28)) w.heap.size #[.int .i64 T0.step, .int .i64 T0.phase, .bool T0.fresh, .slice a0 T0.vals.length c0, .slice b0 T0.mail.length d0]) := X0.out.below (below_alloc _ _) X0.out.lt
  replace X1 : Hid (BX 24 (w3.alloc (.cells #[.int .i64 (keptS T1).step, .int .i64 (keptS T1).phase, .bool (keptS T1).fresh, .slice Ba (keptS T1).vals.length Bc, .slice Bb (keptS T1).mail.length Bd] 28)) (w.heap.size + 1) #[.int .i64 T1.step, .int .i64 T1.phase, .bool T1.fresh, .slice a1 T1.vals.length c1, .slice b1 T1.mail.length d1]) := X1.out.below (below_alloc _ _) X1.out.lt
  replace D1 : Hid (DiskR (w3.alloc (.cells #[.int .i64 (keptS T1).step, .int .i64 (keptS T1).phase, .bool (keptS T1).fresh, .slice Ba (keptS T1).vals.length Bc, .slice Bb (keptS T1).mail.length Bd] 28)) (.slice D1a ([fS p kb0, fS (1 - p) kb1]).length D1c) ([fS p kb0, fS (1 - p) kb1])) := D1.out.below (below_alloc _ _) (Nat.le_refl _)
  replace D : Hid (BX 39 (w3.alloc (.cells #[.int .i64 (keptS T1).step, .int .i64 (keptS T1).phase, .bool (keptS T1).fresh, .slice Ba (keptS T1).vals.length Bc, .slice Bb (keptS T1).mail.length Bd] 28)) q1 #[.slice D1a ([fS p kb0, fS (1 - p) kb1] : List FileL).length D1c]) := D.out.below (below_alloc _ _) D.out.lt
  replace AV : Hid ((w3.alloc (.cells #[.int .i64 (keptS T1).step, .int .i64 (keptS T1).phase, .bool (keptS T1).fresh, .slice Ba (keptS T1).vals.length Bc, .slice Bb (keptS T1).mail.length Bd] 28)).ownsRow w.heap.size 53 2 (.slice Aa (keptS T0).vals.length Ac) (keptS T0).vals.length ((keptS T0).vals.flatMap encM)) := own_below AV.out (below_alloc _ _) (Nat.le_refl _)
  replace AM : Hid ((w3.alloc (.cells #[.int .i64 (keptS T1).step, .int .i64 (keptS T1).phase, .bool (keptS T1).fresh, .slice Ba (keptS T1).vals.length Bc, .slice Bb (keptS T1).mail.length Bd] 28)).ownsRow w.heap.size 62 2 (.slice Ab (keptS T0).mail.length Ad) (keptS T0).mail.length ((keptS T0).mail.flatMap encM)) := own_below AM.out (below_alloc _ _) (Nat.le_refl _)
  replace A : Hid (BX 28 (w3.alloc (.cells #[.int .i64 (keptS T1).step, .int .i64 (keptS T1).phase, .bool (keptS T1).fresh, .slice Ba (keptS T1).vals.length Bc, .slice Bb (keptS T1).mail.length Bd] 28)) q2 #[.int .i64 (keptS T0).step, .int .i64 (keptS T0).phase, .bool (keptS T0).fresh, .slice Aa (keptS T0).vals.length Ac, .slice Ab (keptS T0).mail.length Ad]) := A.out.below (below_alloc _ _) A.out.lt
  replace BV : Hid ((w3.alloc (.cells #[.int .i64 (keptS T1).step, .int .i64 (keptS T1).phase, .bool (keptS T1).fresh, .slice Ba (keptS T1).vals.length Bc, .slice Bb (keptS T1).mail.length Bd] 28)).ownsRow w.heap.size 53 2 (.slice Ba (keptS T1).vals.length Bc) (keptS T1).vals.length ((keptS T1).vals.flatMap encM)) := own_below BV.out (below_alloc _ _) (Nat.le_refl _)
  replace BM : Hid ((w3.alloc (.cells #[.int .i64 (keptS T1).step, .int .i64 (keptS T1).phase, .bool (keptS T1).fresh, .slice Ba (keptS T1).vals.length Bc, .slice Bb (keptS T1).mail.length Bd] 28)).ownsRow w.heap.size 62 2 (.slice Bb (keptS T1).mail.length Bd) (keptS T1).mail.length ((keptS T1).mail.flatMap encM)) := own_below BM.out (below_alloc _ _) (Nat.le_refl _)
  have B : Hid (BX 28 (w3.alloc (.cells #[.int .i64 (keptS T1).step, .int .i64 (keptS T1).phase, .bool (keptS T1).fresh, .slice Ba (keptS T1).vals.length Bc, .slice Bb (keptS T1).mail.length Bd] 28)) w3.heap.size #[.int .i64 (keptS T1).step, .int .i64 (keptS T1).phase, .bool (keptS T1).fresh, .slice Ba (keptS T1).vals.length Bc, .slice Bb (keptS T1).mail.length Bd]) := BX.new _ _ _
  have l_q3 : w.heap.size ≤ w3.heap.size := L9
  clear L9
  have n_X0_q3 : w.heap.size < w3.heap.size := M9_X0
  clear M9_X0
  have n_X1_q3 : (w.heap.size + 1) < w3.heap.size := M9_X1
  clear M9_X1
  have n_D_q3 : q1 < w3.heap.size := M9_D
  clear M9_D
  have n_A_q3 : q2 < w3.heap.size := M9_A
  clear M9_A
  go_upto_region 4 with fail
  generalize w3.alloc (.cells #[.int .i64 (keptS T1).step, .int .i64 (keptS T1).phase, .bool (keptS T1).fresh, .slice Ba (keptS T1).vals.length Bc, .slice Bb (keptS T1).mail.length Bd] 28) = w3n at *
  generalize w3.heap.size = q3 at *
  go_wp2_with fail
  refine (CQ.out _).mono ?_
  rintro e w9 ⟨rfl, e9⟩
  have e9' : w3n = w9 := e9.symm
  subst e9'
  clear e9
  have z4_0 : w3n.cell? ⟨q1, 0, none⟩ = some (.slice D1a ([fS p kb0, fS (1 - p) kb1] : List FileL).length D1c) := D.out.cell 0
  go_wp2_with fail
  refine (CNW.out _ _ D1.out).mono ?_
  rintro e w5 ⟨v1, v2, rfl, ho1, ho2, hb⟩
  obtain ⟨Na, Nc, rfl⟩ := (RowK.own encM_len ho1 : MlR w5 v1 gt.vals).shape
  obtain ⟨Nb, Nd, rfl⟩ := (RowK.own encM_len ho2 : MlR w5 v2 gt.mail).shape
  have hle := LB.out.size
  replace LB : Hid (Below w.heap.size w w5) := LB.out.trans (hb.mono LB.out.size)
  replace X0 : Hid (BX 24 w5 w.heap.size #[.int .i64 T0.step, .int .i64 T0.phase, .bool T0.fresh, .slice a0 T0.vals.length c0, .slice b0 T0.mail.length d0]) := X0.out.below hb X0.out.lt
  replace X1 : Hid (BX 24 w5 (w.heap.size + 1) #[.int .i64 T1.step, .int .i64 T1.phase, .bool T1.fresh, .slice a1 T1.vals.length c1, .slice b1 T1.mail.length d1]) := X1.out.below hb X1.out.lt
  replace D1 : Hid (DiskR w5 (.slice D1a ([fS p kb0, fS (1 - p) kb1]).length D1c) ([fS p kb0, fS (1 - p) kb1])) := D1.out.below hb (Nat.le_refl _)
  replace D : Hid (BX 39 w5 q1 #[.slice D1a ([fS p kb0, fS (1 - p) kb1] : List FileL).length D1c]) := D.out.below hb D.out.lt
  replace AV : Hid (w5.ownsRow w.heap.size 53 2 (.slice Aa (keptS T0).vals.length Ac) (keptS T0).vals.length ((keptS T0).vals.flatMap encM)) := own_below AV.out hb (Nat.le_refl _)
  replace AM : Hid (w5.ownsRow w.heap.size 62 2 (.slice Ab (keptS T0).mail.length Ad) (keptS T0).mail.length ((keptS T0).mail.flatMap encM)) := own_below AM.out hb (Nat.le_refl _)
  replace A : Hid (BX 28 w5 q2 #[.int .i64 (keptS T0).step, .int .i64 (keptS T0).phase, .bool (keptS T0).fresh, .slice Aa (keptS T0).vals.length Ac, .slice Ab (keptS T0).mail.length Ad]) := A.out.below hb A.out.lt
  replace BV : Hid (w5.ownsRow w.heap.size 53 2 (.slice Ba (keptS T1).vals.length Bc) (keptS T1).vals.length ((keptS T1).vals.flatMap encM)) := own_below BV.out hb (Nat.le_refl _)
  replace BM : Hid (w5.ownsRow w.heap.size 62 2 (.slice Bb (keptS T1).mail.length Bd) (keptS T1).mail.length ((keptS T1).mail.flatMap encM)) := own_below BM.out hb (Nat.le_refl _)
  replace B : Hid (BX 28 w5 q3 #[.int .i64 (keptS T1).step, .int .i64 (keptS T1).phase, .bool (keptS T1).fresh, .slice Ba (keptS T1).vals.length Bc, .slice Bb (keptS T1).mail.length Bd]) := B.out.below hb B.out.lt
  have NV : Hid (w5.ownsRow w.heap.size 53 2 (.slice Na gt.vals.length Nc) gt.vals.length (gt.vals.flatMap encM)) := own_lower ho1 hle
  have NM : Hid (w5.ownsRow w.heap.size 62 2 (.slice Nb gt.mail.length Nd) gt.mail.length (gt.mail.flatMap encM)) := own_lower ho2 hle
  clear ho1 ho2 hb hle
  clear z4_0
  have L9 := LB.out.size
  have M9_X0 := X0.out.lt
  have M9_X1 := X1.out.lt
  have M9_D := D.out.lt
  have M9_A := A.out.lt
  have M9_B := B.out.lt
  replace LB : Hid (Below w.heap.size w (w5.alloc (.cells #[.int .i64 gt.step, .int .i64 gt.phase, .bool gt.fresh, .slice Na gt.vals.length Nc, .slice Nb gt.mail.length Nd] 28))) := LB.out.alloc LB.out.size _
  replace X0 : Hid (BX 24 (w5.alloc (.cells #[.int .i64 gt.step, .int .i64 gt.phase, .bool gt.fresh, .slice Na gt.vals.length Nc, .slice Nb gt.mail.length Nd] 28)) w.heap.size #[.int .i64 T0.step, .int .i64 T0.phase, .bool T0.fresh, .slice a0 T0.vals.length c0, .slice b0 T0.mail.length d0]) := X0.out.below (below_alloc _ _) X0.out.lt
  replace X1 : Hid (BX 24 (w5.alloc (.cells #[.int .i64 gt.step, .int .i64 gt.phase, .bool gt.fresh, .slice Na gt.vals.length Nc, .slice Nb gt.mail.length Nd] 28)) (w.heap.size + 1) #[.int .i64 T1.step, .int .i64 T1.phase, .bool T1.fresh, .slice a1 T1.vals.length c1, .slice b1 T1.mail.length d1]) := X1.out.below (below_alloc _ _) X1.out.lt
  replace D1 : Hid (DiskR (w5.alloc (.cells #[.int .i64 gt.step, .int .i64 gt.phase, .bool gt.fresh, .slice Na gt.vals.length Nc, .slice Nb gt.mail.length Nd] 28)) (.slice D1a ([fS p kb0, fS (1 - p) kb1]).length D1c) ([fS p kb0, fS (1 - p) kb1])) := D1.out.below (below_alloc _ _) (Nat.le_refl _)
  replace D : Hid (BX 39 (w5.alloc (.cells #[.int .i64 gt.step, .int .i64 gt.phase, .bool gt.fresh, .slice Na gt.vals.length Nc, .slice Nb gt.mail.length Nd] 28)) q1 #[.slice D1a ([fS p kb0, fS (1 - p) kb1] : List FileL).length D1c]) := D.out.below (below_alloc _ _) D.out.lt
  replace AV : Hid ((w5.alloc (.cells #[.int .i64 gt.step, .int .i64 gt.phase, .bool gt.fresh, .slice Na gt.vals.length Nc, .slice Nb gt.mail.length Nd] 28)).ownsRow w.heap.size 53 2 (.slice Aa (keptS T0).vals.length Ac) (keptS T0).vals.length ((keptS T0).vals.flatMap encM)) := own_below AV.out (below_alloc _ _) (Nat.le_refl _)
  replace AM : Hid ((w5.alloc (.cells #[.int .i64 gt.step, .int .i64 gt.phase, .bool gt.fresh, .slice Na gt.vals.length Nc, .slice Nb gt.mail.length Nd] 28)).ownsRow w.heap.size 62 2 (.slice Ab (keptS T0).mail.length Ad) (keptS T0).mail.length ((keptS T0).mail.flatMap encM)) := own_below AM.out (below_alloc _ _) (Nat.le_refl _)
  replace A : Hid (BX 28 (w5.alloc (.cells #[.int .i64 gt.step, .int .i64 gt.phase, .bool gt.fresh, .slice Na gt.vals.length Nc, .slice Nb gt.mail.length Nd] 28)) q2 #[.int .i64 (keptS T0).step, .int .i64 (keptS T0).phase, .bool (keptS T0).fresh, .slice Aa (keptS T0).vals.length Ac, .slice Ab (keptS T0).mail.length Ad]) := A.out.below (below_alloc _ _) A.out.lt
  replace BV : Hid ((w5.alloc (.cells #[.int .i64 gt.step, .int .i64 gt.phase, .bool gt.fresh, .slice Na gt.vals.length Nc, .slice Nb gt.mail.length Nd] 28)).ownsRow w.heap.size 53 2 (.slice Ba (keptS T1).vals.length Bc) (keptS T1).vals.length ((keptS T1).vals.flatMap encM)) := own_below BV.out (below_alloc _ _) (Nat.le_refl _)
  replace BM : Hid ((w5.alloc (.cells #[.int .i64 gt.step, .int .i64 gt.phase, .bool gt.fresh, .slice Na gt.vals.length Nc, .slice Nb gt.mail.length Nd] 28)).ownsRow w.heap.size 62 2 (.slice Bb (keptS T1).mail.length Bd) (keptS T1).mail.length ((keptS T1).mail.flatMap encM)) := own_below BM.out (below_alloc _ _) (Nat.le_refl _)
  replace B : Hid (BX 28 (w5.alloc (.cells #[.int .i64 gt.step, .int .i64 gt.phase, .bool gt.fresh, .slice Na gt.vals.length Nc, .slice Nb gt.mail.length Nd] 28)) q3 #[.int .i64 (keptS T1).step, .int .i64 (keptS T1).phase, .bool (keptS T1).fresh, .slice Ba (keptS T1).vals.length Bc, .slice Bb (keptS T1).mail.length Bd]) := B.out.below (below_alloc _ _) B.out.lt
  replace NV : Hid ((w5.alloc (.cells #[.int .i64 gt.step, .int .i64 gt.phase, .bool gt.fresh, .slice Na gt.vals.length Nc, .slice Nb gt.mail.length Nd] 28)).ownsRow w.heap.size 53 2 (.slice Na gt.vals.length Nc) gt.vals.length (gt.vals.flatMap encM)) := own_below NV.out (below_alloc _ _) (Nat.le_refl _)
  replace NM : Hid ((w5.alloc (.cells #[.int .i64 gt.step, .int .i64 gt.phase, .bool gt.fresh, .slice Na gt.vals.length Nc, .slice Nb gt.mail.length Nd] 28)).ownsRow w.heap.size 62 2 (.slice Nb gt.mail.length Nd) gt.mail.length (gt.mail.flatMap encM)) := own_below NM.out (below_alloc _ _) (Nat.le_refl _)
  have N : Hid (BX 28 (w5.alloc (.cells #[.int .i64 gt.step, .int .i64 gt.phase, .bool gt.fresh, .slice Na gt.vals.length Nc, .slice Nb gt.mail.length Nd] 28)) w5.heap.size #[.int .i64 gt.step, .int .i64 gt.phase, .bool gt.fresh, .slice Na gt.vals.length Nc, .slice Nb gt.mail.length Nd]) := BX.new _ _ _
  have l_q4 : w.heap.size ≤ w5.heap.size := L9
  clear L9
  have n_X0_q4 : w.heap.size < w5.heap.size := M9_X0
  clear M9_X0
  have n_X1_q4 : (w.heap.size + 1) < w5.heap.size := M9_X1
  clear M9_X1
  have n_D_q4 : q1 < w5.heap.size := M9_D
  clear M9_D
  have n_A_q4 : q2 < w5.heap.size := M9_A
  clear M9_A
  have n_B_q4 : q3 < w5.heap.size := M9_B
  clear M9_B
  go_upto_region 6 with fail
  generalize w5.alloc (.cells #[.int .i64 gt.step, .int .i64 gt.phase, .bool gt.fresh, .slice Na gt.vals.length Nc, .slice Nb gt.mail.length Nd] 28) = w5n at *
  generalize w5.heap.size = q4 at *
  clear D
  clear D1
  clear X0
  clear X1
  generalize hA9 : keptS T0 = sa at *
  generalize hB9 : keptS T1 = sb at *
  clear hA9 hB9 CK0 CK1 CSD CNW
  have z5_0 : w5n.cell? ⟨q2, 0, none⟩ = some (.int .i64 sa.step) := A.out.cell 0
  have z5_1 : w5n.cell? ⟨q2, 1, none⟩ = some (.int .i64 sa.phase) := A.out.cell 1
  have z5_2 : w5n.cell? ⟨q2, 2, none⟩ = some (.bool sa.fresh) := A.out.cell 2
  have z5_3 : w5n.cell? ⟨q2, 3, none⟩ = some (.slice Aa sa.vals.length Ac) := A.out.cell 3
  have z5_4 : w5n.cell? ⟨q2, 4, none⟩ = some (.slice Ab sa.mail.length Ad) := A.out.cell 4
  have z6_0 : w5n.cell? ⟨q3, 0, none⟩ = some (.int .i64 sb.step) := B.out.cell 0
  have z6_1 : w5n.cell? ⟨q3, 1, none⟩ = some (.int .i64 sb.phase) := B.out.cell 1
  have z6_2 : w5n.cell? ⟨q3, 2, none⟩ = some (.bool sb.fresh) := B.out.cell 2
  have z6_3 : w5n.cell? ⟨q3, 3, none⟩ = some (.slice Ba sb.vals.length Bc) := B.out.cell 3
  have z6_4 : w5n.cell? ⟨q3, 4, none⟩ = some (.slice Bb sb.mail.length Bd) := B.out.cell 4
  have z7_0 : w5n.cell? ⟨q4, 0, none⟩ = some (.int .i64 gt.step) := N.out.cell 0
  have z7_1 : w5n.cell? ⟨q4, 1, none⟩ = some (.int .i64 gt.phase) := N.out.cell 1
  have z7_2 : w5n.cell? ⟨q4, 2, none⟩ = some (.bool gt.fresh) := N.out.cell 2
  have z7_3 : w5n.cell? ⟨q4, 3, none⟩ = some (.slice Na gt.vals.length Nc) := N.out.cell 3
  have z7_4 : w5n.cell? ⟨q4, 4, none⟩ = some (.slice Nb gt.mail.length Nd) := N.out.cell 4
  have HG : Hid ((sa.step ≤ m ∨ sb.step ≤ m) → te = 0 ∧ (gt = sa ∨ gt = sb) ∧ (sa.step ≤ m → sa.step ≤ gt.step) ∧ (sb.step ≤ m → sb.step ≤ gt.step) ∧ gt.step ≤ m) := fun h => by
    rcases HN.out with ⟨h1, h2, _⟩ | ⟨_, h2, h3, h4, h5, h6⟩
    · omega
    · exact ⟨h2, h3, h4, h5, h6⟩
  by_cases c1 : sa.step ≤ m
  · by_cases c2 : sb.step ≤ m
    · obtain ⟨rfl, hg2, hg3, hg4, hg5⟩ := HG.out (by omega)
      clear HG HN
      have HG : Hid (gt = sa ∨ gt = sb) := hg2
      have tb : (gt.step == max sa.step sb.step) = true := by
        have h3 := hg3 c1
        have h4 := hg4 c2
        rcases hg2 with rfl | rfl <;> simp only [beq_iff_eq] <;> omega
      have t0 : ¬ max sa.step sb.step < 0 := by omega
      clear hg2 hg3 hg4 hg5
      go_wp2_with fail
      refine (CT.out _ gt sa _ _ _ _ (RowK.own encM_len NV.out) (RowK.own encM_len NM.out) (RowK.own encM_len AV.out) (RowK.own encM_len AM.out)).mono ?_
      rintro e wA ⟨r, rfl, hr, hb⟩
      replace LB : Hid (Below w.heap.size w wA) := LB.out.trans (hb.mono LB.out.size)
      replace AV : Hid (wA.ownsRow w.heap.size 53 2 (.slice Aa sa.vals.length Ac) sa.vals.length (sa.vals.flatMap encM)) := own_below AV.out hb (Nat.le_refl _)
      replace AM : Hid (wA.ownsRow w.heap.size 62 2 (.slice Ab sa.mail.length Ad) sa.mail.length (sa.mail.flatMap encM)) := own_below AM.out hb (Nat.le_refl _)
      replace A : Hid (BX 28 wA q2 #[.int .i64 sa.step, .int .i64 sa.phase, .bool sa.fresh, .slice Aa sa.vals.length Ac, .slice Ab sa.mail.length Ad]) := A.out.below hb A.out.lt
      replace BV : Hid (wA.ownsRow w.heap.size 53 2 (.slice Ba sb.vals.length Bc) sb.vals.length (sb.vals.flatMap encM)) := own_below BV.out hb (Nat.le_refl _)
      replace BM : Hid (wA.ownsRow w.heap.size 62 2 (.slice Bb sb.mail.length Bd) sb.mail.length (sb.mail.flatMap encM)) := own_below BM.out hb (Nat.le_refl _)
      replace B : Hid (BX 28 wA q3 #[.int .i64 sb.step, .int .i64 sb.phase, .bool sb.fresh, .slice Ba sb.vals.length Bc, .slice Bb sb.mail.length Bd]) := B.out.below hb B.out.lt
      replace NV : Hid (wA.ownsRow w.heap.size 53 2 (.slice Na gt.vals.length Nc) gt.vals.length (gt.vals.flatMap encM)) := own_below NV.out hb (Nat.le_refl _)
      replace NM : Hid (wA.ownsRow w.heap.size 62 2 (.slice Nb gt.mail.length Nd) gt.mail.length (gt.mail.flatMap encM)) := own_below NM.out hb (Nat.le_refl _)
      replace N : Hid (BX 28 wA q4 #[.int .i64 gt.step, .int .i64 gt.phase, .bool gt.fresh, .slice Na gt.vals.length Nc, .slice Nb gt.mail.length Nd]) := N.out.below hb N.out.lt
      clear hb z5_0 z5_1 z5_2 z5_3 z5_4 z6_0 z6_1 z6_2 z6_3 z6_4 z7_0 z7_1 z7_2 z7_3 z7_4
      cases r with
      | true =>
        have z208_0 : wA.cell? ⟨q2, 0, none⟩ = some (.int .i64 sa.step) := A.out.cell 0
        have z208_1 : wA.cell? ⟨q2, 1, none⟩ = some (.int .i64 sa.phase) := A.out.cell 1
        have z208_2 : wA.cell? ⟨q2, 2, none⟩ = some (.bool sa.fresh) := A.out.cell 2
        have z208_3 : wA.cell? ⟨q2, 3, none⟩ = some (.slice Aa sa.vals.length Ac) := A.out.cell 3
        have z208_4 : wA.cell? ⟨q2, 4, none⟩ = some (.slice Ab sa.mail.length Ad) := A.out.cell 4
        have z209_0 : wA.cell? ⟨q3, 0, none⟩ = some (.int .i64 sb.step) := B.out.cell 0
        have z209_1 : wA.cell? ⟨q3, 1, none⟩ = some (.int .i64 sb.phase) := B.out.cell 1
        have z209_2 : wA.cell? ⟨q3, 2, none⟩ = some (.bool sb.fresh) := B.out.cell 2
        have z209_3 : wA.cell? ⟨q3, 3, none⟩ = some (.slice Ba sb.vals.length Bc) := B.out.cell 3
        have z209_4 : wA.cell? ⟨q3, 4, none⟩ = some (.slice Bb sb.mail.length Bd) := B.out.cell 4
        have z210_0 : wA.cell? ⟨q4, 0, none⟩ = some (.int .i64 gt.step) := N.out.cell 0
        have z210_1 : wA.cell? ⟨q4, 1, none⟩ = some (.int .i64 gt.phase) := N.out.cell 1
        have z210_2 : wA.cell? ⟨q4, 2, none⟩ = some (.bool gt.fresh) := N.out.cell 2
        have z210_3 : wA.cell? ⟨q4, 3, none⟩ = some (.slice Na gt.vals.length Nc) := N.out.cell 3
        have z210_4 : wA.cell? ⟨q4, 4, none⟩ = some (.slice Nb gt.mail.length Nd) := N.out.cell 4
        clear hr
        go_wp2_with fail
        go_ret
        exact ⟨rfl, LB.out⟩
      | false =>
        have z208_0 : wA.cell? ⟨q2, 0, none⟩ = some (.int .i64 sa.step) := A.out.cell 0
        have z208_1 : wA.cell? ⟨q2, 1, none⟩ = some (.int .i64 sa.phase) := A.out.cell 1
        have z208_2 : wA.cell? ⟨q2, 2, none⟩ = some (.bool sa.fresh) := A.out.cell 2
        have z208_3 : wA.cell? ⟨q2, 3, none⟩ = some (.slice Aa sa.vals.length Ac) := A.out.cell 3
        have z208_4 : wA.cell? ⟨q2, 4, none⟩ = some (.slice Ab sa.mail.length Ad) := A.out.cell 4
        have z209_0 : wA.cell? ⟨q3, 0, none⟩ = some (.int .i64 sb.step) := B.out.cell 0
        have z209_1 : wA.cell? ⟨q3, 1, none⟩ = some (.int .i64 sb.phase) := B.out.cell 1
        have z209_2 : wA.cell? ⟨q3, 2, none⟩ = some (.bool sb.fresh) := B.out.cell 2
        have z209_3 : wA.cell? ⟨q3, 3, none⟩ = some (.slice Ba sb.vals.length Bc) := B.out.cell 3
        have z209_4 : wA.cell? ⟨q3, 4, none⟩ = some (.slice Bb sb.mail.length Bd) := B.out.cell 4
        have z210_0 : wA.cell? ⟨q4, 0, none⟩ = some (.int .i64 gt.step) := N.out.cell 0
        have z210_1 : wA.cell? ⟨q4, 1, none⟩ = some (.int .i64 gt.phase) := N.out.cell 1
        have z210_2 : wA.cell? ⟨q4, 2, none⟩ = some (.bool gt.fresh) := N.out.cell 2
        have z210_3 : wA.cell? ⟨q4, 3, none⟩ = some (.slice Na gt.vals.length Nc) := N.out.cell 3
        have z210_4 : wA.cell? ⟨q4, 4, none⟩ = some (.slice Nb gt.mail.length Nd) := N.out.cell 4
        have hgb : Hid (gt = sb) := by
          rcases HG.out with h9 | h9
          · exact absurd (hr h9) (by decide)
          · exact h9
        clear hr
        go_wp2_with fail
        refine (CT.out _ gt sb _ _ _ _ (RowK.own encM_len NV.out) (RowK.own encM_len NM.out) (RowK.own encM_len BV.out) (RowK.own encM_len BM.out)).mono ?_
        rintro e wB ⟨r, rfl, hr, hb⟩
        obtain rfl : r = true := hr hgb.out
        replace LB : Hid (Below w.heap.size w wB) := LB.out.trans (hb.mono LB.out.size)
        replace AV : Hid (wB.ownsRow w.heap.size 53 2 (.slice Aa sa.vals.length Ac) sa.vals.length (sa.vals.flatMap encM)) := own_below AV.out hb (Nat.le_refl _)
        replace AM : Hid (wB.ownsRow w.heap.size 62 2 (.slice Ab sa.mail.length Ad) sa.mail.length (sa.mail.flatMap encM)) := own_below AM.out hb (Nat.le_refl _)
        replace A : Hid (BX 28 wB q2 #[.int .i64 sa.step, .int .i64 sa.phase, .bool sa.fresh, .slice Aa sa.vals.length Ac, .slice Ab sa.mail.length Ad]) := A.out.below hb A.out.lt
        replace BV : Hid (wB.ownsRow w.heap.size 53 2 (.slice Ba sb.vals.length Bc) sb.vals.length (sb.vals.flatMap encM)) := own_below BV.out hb (Nat.le_refl _)
        replace BM : Hid (wB.ownsRow w.heap.size 62 2 (.slice Bb sb.mail.length Bd) sb.mail.length (sb.mail.flatMap encM)) := own_below BM.out hb (Nat.le_refl _)
        replace B : Hid (BX 28 wB q3 #[.int .i64 sb.step, .int .i64 sb.phase, .bool sb.fresh, .slice Ba sb.vals.length Bc, .slice Bb sb.mail.length Bd]) := B.out.below hb B.out.lt
        replace NV : Hid (wB.ownsRow w.heap.size 53 2 (.slice Na gt.vals.length Nc) gt.vals.length (gt.vals.flatMap encM)) := own_below NV.out hb (Nat.le_refl _)
        replace NM : Hid (wB.ownsRow w.heap.size 62 2 (.slice Nb gt.mail.length Nd) gt.mail.length (gt.mail.flatMap encM)) := own_below NM.out hb (Nat.le_refl _)
        replace N : Hid (BX 28 wB q4 #[.int .i64 gt.step, .int .i64 gt.phase, .bool gt.fresh, .slice Na gt.vals.length Nc, .slice Nb gt.mail.length Nd]) := N.out.below hb N.out.lt
        clear hb hr z208_0 z208_1 z208_2 z208_3 z208_4 z209_0 z209_1 z209_2 z209_3 z209_4 z210_0 z210_1 z210_2 z210_3 z210_4
        go_wp2_with fail
        go_ret
        exact ⟨rfl, LB.out⟩
    · obtain ⟨rfl, hg2, hg3, hg4, hg5⟩ := HG.out (by omega)
      clear HG HN
      have HG : Hid (gt = sa ∨ gt = sb) := hg2
      have tb : (gt.step == sa.step) = true := by
        have h3 := hg3 c1
        rcases hg2 with rfl | rfl <;> simp only [beq_iff_eq] <;> omega
      have t0 : ¬ sa.step < 0 := by omega
      clear hg2 hg3 hg4 hg5
      go_wp2_with fail
      refine (CT.out _ gt sa _ _ _ _ (RowK.own encM_len NV.out) (RowK.own encM_len NM.out) (RowK.own encM_len AV.out) (RowK.own encM_len AM.out)).mono ?_
      rintro e wA ⟨r, rfl, hr, hb⟩
      replace LB : Hid (Below w.heap.size w wA) := LB.out.trans (hb.mono LB.out.size)
      replace AV : Hid (wA.ownsRow w.heap.size 53 2 (.slice Aa sa.vals.length Ac) sa.vals.length (sa.vals.flatMap encM)) := own_below AV.out hb (Nat.le_refl _)
      replace AM : Hid (wA.ownsRow w.heap.size 62 2 (.slice Ab sa.mail.length Ad) sa.mail.length (sa.mail.flatMap encM)) := own_below AM.out hb (Nat.le_refl _)
      replace A : Hid (BX 28 wA q2 #[.int .i64 sa.step, .int .i64 sa.phase, .bool sa.fresh, .slice Aa sa.vals.length Ac, .slice Ab sa.mail.length Ad]) := A.out.below hb A.out.lt
      replace BV : Hid (wA.ownsRow w.heap.size 53 2 (.slice Ba sb.vals.length Bc) sb.vals.length (sb.vals.flatMap encM)) := own_below BV.out hb (Nat.le_refl _)
      replace BM : Hid (wA.ownsRow w.heap.size 62 2 (.slice Bb sb.mail.length Bd) sb.mail.length (sb.mail.flatMap encM)) := own_below BM.out hb (Nat.le_refl _)
      replace B : Hid (BX 28 wA q3 #[.int .i64 sb.step, .int .i64 sb.phase, .bool sb.fresh, .slice Ba sb.vals.length Bc, .slice Bb sb.mail.length Bd]) := B.out.below hb B.out.lt
      replace NV : Hid (wA.ownsRow w.heap.size 53 2 (.slice Na gt.vals.length Nc) gt.vals.length (gt.vals.flatMap encM)) := own_below NV.out hb (Nat.le_refl _)
      replace NM : Hid (wA.ownsRow w.heap.size 62 2 (.slice Nb gt.mail.length Nd) gt.mail.length (gt.mail.flatMap encM)) := own_below NM.out hb (Nat.le_refl _)
      replace N : Hid (BX 28 wA q4 #[.int .i64 gt.step, .int .i64 gt.phase, .bool gt.fresh, .slice Na gt.vals.length Nc, .slice Nb gt.mail.length Nd]) := N.out.below hb N.out.lt
      clear hb z5_0 z5_1 z5_2 z5_3 z5_4 z6_0 z6_1 z6_2 z6_3 z6_4 z7_0 z7_1 z7_2 z7_3 z7_4
      cases r with
      | true =>
        have z208_0 : wA.cell? ⟨q2, 0, none⟩ = some (.int .i64 sa.step) := A.out.cell 0
        have z208_1 : wA.cell? ⟨q2, 1, none⟩ = some (.int .i64 sa.phase) := A.out.cell 1
        have z208_2 : wA.cell? ⟨q2, 2, none⟩ = some (.bool sa.fresh) := A.out.cell 2
        have z208_3 : wA.cell? ⟨q2, 3, none⟩ = some (.slice Aa sa.vals.length Ac) := A.out.cell 3
        have z208_4 : wA.cell? ⟨q2, 4, none⟩ = some (.slice Ab sa.mail.length Ad) := A.out.cell 4
        have z209_0 : wA.cell? ⟨q3, 0, none⟩ = some (.int .i64 sb.step) := B.out.cell 0
        have z209_1 : wA.cell? ⟨q3, 1, none⟩ = some (.int .i64 sb.phase) := B.out.cell 1
        have z209_2 : wA.cell? ⟨q3, 2, none⟩ = some (.bool sb.fresh) := B.out.cell 2
        have z209_3 : wA.cell? ⟨q3, 3, none⟩ = some (.slice Ba sb.vals.length Bc) := B.out.cell 3
        have z209_4 : wA.cell? ⟨q3, 4, none⟩ = some (.slice Bb sb.mail.length Bd) := B.out.cell 4
        have z210_0 : wA.cell? ⟨q4, 0, none⟩ = some (.int .i64 gt.step) := N.out.cell 0
        have z210_1 : wA.cell? ⟨q4, 1, none⟩ = some (.int .i64 gt.phase) := N.out.cell 1
        have z210_2 : wA.cell? ⟨q4, 2, none⟩ = some (.bool gt.fresh) := N.out.cell 2
        have z210_3 : wA.cell? ⟨q4, 3, none⟩ = some (.slice Na gt.vals.length Nc) := N.out.cell 3
        have z210_4 : wA.cell? ⟨q4, 4, none⟩ = some (.slice Nb gt.mail.length Nd) := N.out.cell 4
        clear hr
        go_wp2_with fail
        go_ret
        exact ⟨rfl, LB.out⟩
      | false =>
        have z208_0 : wA.cell? ⟨q2, 0, none⟩ = some (.int .i64 sa.step) := A.out.cell 0
        have z208_1 : wA.cell? ⟨q2, 1, none⟩ = some (.int .i64 sa.phase) := A.out.cell 1
        have z208_2 : wA.cell? ⟨q2, 2, none⟩ = some (.bool sa.fresh) := A.out.cell 2
        have z208_3 : wA.cell? ⟨q2, 3, none⟩ = some (.slice Aa sa.vals.length Ac) := A.out.cell 3
        have z208_4 : wA.cell? ⟨q2, 4, none⟩ = some (.slice Ab sa.mail.length Ad) := A.out.cell 4
        have z209_0 : wA.cell? ⟨q3, 0, none⟩ = some (.int .i64 sb.step) := B.out.cell 0
        have z209_1 : wA.cell? ⟨q3, 1, none⟩ = some (.int .i64 sb.phase) := B.out.cell 1
        have z209_2 : wA.cell? ⟨q3, 2, none⟩ = some (.bool sb.fresh) := B.out.cell 2
        have z209_3 : wA.cell? ⟨q3, 3, none⟩ = some (.slice Ba sb.vals.length Bc) := B.out.cell 3
        have z209_4 : wA.cell? ⟨q3, 4, none⟩ = some (.slice Bb sb.mail.length Bd) := B.out.cell 4
        have z210_0 : wA.cell? ⟨q4, 0, none⟩ = some (.int .i64 gt.step) := N.out.cell 0
        have z210_1 : wA.cell? ⟨q4, 1, none⟩ = some (.int .i64 gt.phase) := N.out.cell 1
        have z210_2 : wA.cell? ⟨q4, 2, none⟩ = some (.bool gt.fresh) := N.out.cell 2
        have z210_3 : wA.cell? ⟨q4, 3, none⟩ = some (.slice Na gt.vals.length Nc) := N.out.cell 3
        have z210_4 : wA.cell? ⟨q4, 4, none⟩ = some (.slice Nb gt.mail.length Nd) := N.out.cell 4
        have hgb : Hid (gt = sb) := by
          rcases HG.out with h9 | h9
          · exact absurd (hr h9) (by decide)
          · exact h9
        clear hr
        go_wp2_with fail
        refine (CT.out _ gt sb _ _ _ _ (RowK.own encM_len NV.out) (RowK.own encM_len NM.out) (RowK.own encM_len BV.out) (RowK.own encM_len BM.out)).mono ?_
        rintro e wB ⟨r, rfl, hr, hb⟩
        obtain rfl : r = true := hr hgb.out
        replace LB : Hid (Below w.heap.size w wB) := LB.out.trans (hb.mono LB.out.size)
        replace AV : Hid (wB.ownsRow w.heap.size 53 2 (.slice Aa sa.vals.length Ac) sa.vals.length (sa.vals.flatMap encM)) := own_below AV.out hb (Nat.le_refl _)
        replace AM : Hid (wB.ownsRow w.heap.size 62 2 (.slice Ab sa.mail.length Ad) sa.mail.length (sa.mail.flatMap encM)) := own_below AM.out hb (Nat.le_refl _)
        replace A : Hid (BX 28 wB q2 #[.int .i64 sa.step, .int .i64 sa.phase, .bool sa.fresh, .slice Aa sa.vals.length Ac, .slice Ab sa.mail.length Ad]) := A.out.below hb A.out.lt
        replace BV : Hid (wB.ownsRow w.heap.size 53 2 (.slice Ba sb.vals.length Bc) sb.vals.length (sb.vals.flatMap encM)) := own_below BV.out hb (Nat.le_refl _)
        replace BM : Hid (wB.ownsRow w.heap.size 62 2 (.slice Bb sb.mail.length Bd) sb.mail.length (sb.mail.flatMap encM)) := own_below BM.out hb (Nat.le_refl _)
        replace B : Hid (BX 28 wB q3 #[.int .i64 sb.step, .int .i64 sb.phase, .bool sb.fresh, .slice Ba sb.vals.length Bc, .slice Bb sb.mail.length Bd]) := B.out.below hb B.out.lt
        replace NV : Hid (wB.ownsRow w.heap.size 53 2 (.slice Na gt.vals.length Nc) gt.vals.length (gt.vals.flatMap encM)) := own_below NV.out hb (Nat.le_refl _)
        replace NM : Hid (wB.ownsRow w.heap.size 62 2 (.slice Nb gt.mail.length Nd) gt.mail.length (gt.mail.flatMap encM)) := own_below NM.out hb (Nat.le_refl _)
        replace N : Hid (BX 28 wB q4 #[.int .i64 gt.step, .int .i64 gt.phase, .bool gt.fresh, .slice Na gt.vals.length Nc, .slice Nb gt.mail.length Nd]) := N.out.below hb N.out.lt
        clear hb hr z208_0 z208_1 z208_2 z208_3 z208_4 z209_0 z209_1 z209_2 z209_3 z209_4 z210_0 z210_1 z210_2 z210_3 z210_4
        go_wp2_with fail
        go_ret
        exact ⟨rfl, LB.out⟩
  · by_cases c2 : sb.step ≤ m
    · obtain ⟨rfl, hg2, hg3, hg4, hg5⟩ := HG.out (by omega)
      clear HG HN
      have HG : Hid (gt = sa ∨ gt = sb) := hg2
      have tb : (gt.step == max (-1) sb.step) = true := by
        have h4 := hg4 c2
        rcases hg2 with rfl | rfl <;> simp only [beq_iff_eq] <;> omega
      have t0 : ¬ max (-1) sb.step < 0 := by omega
      clear hg2 hg3 hg4 hg5
      go_wp2_with fail
      refine (CT.out _ gt sa _ _ _ _ (RowK.own encM_len NV.out) (RowK.own encM_len NM.out) (RowK.own encM_len AV.out) (RowK.own encM_len AM.out)).mono ?_
      rintro e wA ⟨r, rfl, hr, hb⟩
      replace LB : Hid (Below w.heap.size w wA) := LB.out.trans (hb.mono LB.out.size)
      replace AV : Hid (wA.ownsRow w.heap.size 53 2 (.slice Aa sa.vals.length Ac) sa.vals.length (sa.vals.flatMap encM)) := own_below AV.out hb (Nat.le_refl _)
      replace AM : Hid (wA.ownsRow w.heap.size 62 2 (.slice Ab sa.mail.length Ad) sa.mail.length (sa.mail.flatMap encM)) := own_below AM.out hb (Nat.le_refl _)
      replace A : Hid (BX 28 wA q2 #[.int .i64 sa.step, .int .i64 sa.phase, .bool sa.fresh, .slice Aa sa.vals.length Ac, .slice Ab sa.mail.length Ad]) := A.out.below hb A.out.lt
      replace BV : Hid (wA.ownsRow w.heap.size 53 2 (.slice Ba sb.vals.length Bc) sb.vals.length (sb.vals.flatMap encM)) := own_below BV.out hb (Nat.le_refl _)
      replace BM : Hid (wA.ownsRow w.heap.size 62 2 (.slice Bb sb.mail.length Bd) sb.mail.length (sb.mail.flatMap encM)) := own_below BM.out hb (Nat.le_refl _)
      replace B : Hid (BX 28 wA q3 #[.int .i64 sb.step, .int .i64 sb.phase, .bool sb.fresh, .slice Ba sb.vals.length Bc, .slice Bb sb.mail.length Bd]) := B.out.below hb B.out.lt
      replace NV : Hid (wA.ownsRow w.heap.size 53 2 (.slice Na gt.vals.length Nc) gt.vals.length (gt.vals.flatMap encM)) := own_below NV.out hb (Nat.le_refl _)
      replace NM : Hid (wA.ownsRow w.heap.size 62 2 (.slice Nb gt.mail.length Nd) gt.mail.length (gt.mail.flatMap encM)) := own_below NM.out hb (Nat.le_refl _)
      replace N : Hid (BX 28 wA q4 #[.int .i64 gt.step, .int .i64 gt.phase, .bool gt.fresh, .slice Na gt.vals.length Nc, .slice Nb gt.mail.length Nd]) := N.out.below hb N.out.lt
      clear hb z5_0 z5_1 z5_2 z5_3 z5_4 z6_0 z6_1 z6_2 z6_3 z6_4 z7_0 z7_1 z7_2 z7_3 z7_4
      cases r with
      | true =>
        have z208_0 : wA.cell? ⟨q2, 0, none⟩ = some (.int .i64 sa.step) := A.out.cell 0
        have z208_1 : wA.cell? ⟨q2, 1, none⟩ = some (.int .i64 sa.phase) := A.out.cell 1
        have z208_2 : wA.cell? ⟨q2, 2, none⟩ = some (.bool sa.fresh) := A.out.cell 2
        have z208_3 : wA.cell? ⟨q2, 3, none⟩ = some (.slice Aa sa.vals.length Ac) := A.out.cell 3
        have z208_4 : wA.cell? ⟨q2, 4, none⟩ = some (.slice Ab sa.mail.length Ad) := A.out.cell 4
        have z209_0 : wA.cell? ⟨q3, 0, none⟩ = some (.int .i64 sb.step) := B.out.cell 0
        have z209_1 : wA.cell? ⟨q3, 1, none⟩ = some (.int .i64 sb.phase) := B.out.cell 1
        have z209_2 : wA.cell? ⟨q3, 2, none⟩ = some (.bool sb.fresh) := B.out.cell 2
        have z209_3 : wA.cell? ⟨q3, 3, none⟩ = some (.slice Ba sb.vals.length Bc) := B.out.cell 3
        have z209_4 : wA.cell? ⟨q3, 4, none⟩ = some (.slice Bb sb.mail.length Bd) := B.out.cell 4
        have z210_0 : wA.cell? ⟨q4, 0, none⟩ = some (.int .i64 gt.step) := N.out.cell 0
        have z210_1 : wA.cell? ⟨q4, 1, none⟩ = some (.int .i64 gt.phase) := N.out.cell 1
        have z210_2 : wA.cell? ⟨q4, 2, none⟩ = some (.bool gt.fresh) := N.out.cell 2
        have z210_3 : wA.cell? ⟨q4, 3, none⟩ = some (.slice Na gt.vals.length Nc) := N.out.cell 3
        have z210_4 : wA.cell? ⟨q4, 4, none⟩ = some (.slice Nb gt.mail.length Nd) := N.out.cell 4
        clear hr
        go_wp2_with fail
        go_ret
        exact ⟨rfl, LB.out⟩
      | false =>
        have z208_0 : wA.cell? ⟨q2, 0, none⟩ = some (.int .i64 sa.step) := A.out.cell 0
        have z208_1 : wA.cell? ⟨q2, 1, none⟩ = some (.int .i64 sa.phase) := A.out.cell 1
        have z208_2 : wA.cell? ⟨q2, 2, none⟩ = some (.bool sa.fresh) := A.out.cell 2
        have z208_3 : wA.cell? ⟨q2, 3, none⟩ = some (.slice Aa sa.vals.length Ac) := A.out.cell 3
        have z208_4 : wA.cell? ⟨q2, 4, none⟩ = some (.slice Ab sa.mail.length Ad) := A.out.cell 4
        have z209_0 : wA.cell? ⟨q3, 0, none⟩ = some (.int .i64 sb.step) := B.out.cell 0
        have z209_1 : wA.cell? ⟨q3, 1, none⟩ = some (.int .i64 sb.phase) := B.out.cell 1
        have z209_2 : wA.cell? ⟨q3, 2, none⟩ = some (.bool sb.fresh) := B.out.cell 2
        have z209_3 : wA.cell? ⟨q3, 3, none⟩ = some (.slice Ba sb.vals.length Bc) := B.out.cell 3
        have z209_4 : wA.cell? ⟨q3, 4, none⟩ = some (.slice Bb sb.mail.length Bd) := B.out.cell 4
        have z210_0 : wA.cell? ⟨q4, 0, none⟩ = some (.int .i64 gt.step) := N.out.cell 0
        have z210_1 : wA.cell? ⟨q4, 1, none⟩ = some (.int .i64 gt.phase) := N.out.cell 1
        have z210_2 : wA.cell? ⟨q4, 2, none⟩ = some (.bool gt.fresh) := N.out.cell 2
        have z210_3 : wA.cell? ⟨q4, 3, none⟩ = some (.slice Na gt.vals.length Nc) := N.out.cell 3
        have z210_4 : wA.cell? ⟨q4, 4, none⟩ = some (.slice Nb gt.mail.length Nd) := N.out.cell 4
        have hgb : Hid (gt = sb) := by
          rcases HG.out with h9 | h9
          · exact absurd (hr h9) (by decide)
          · exact h9
        clear hr
        go_wp2_with fail
        refine (CT.out _ gt sb _ _ _ _ (RowK.own encM_len NV.out) (RowK.own encM_len NM.out) (RowK.own encM_len BV.out) (RowK.own encM_len BM.out)).mono ?_
        rintro e wB ⟨r, rfl, hr, hb⟩
        obtain rfl : r = true := hr hgb.out
        replace LB : Hid (Below w.heap.size w wB) := LB.out.trans (hb.mono LB.out.size)
        replace AV : Hid (wB.ownsRow w.heap.size 53 2 (.slice Aa sa.vals.length Ac) sa.vals.length (sa.vals.flatMap encM)) := own_below AV.out hb (Nat.le_refl _)
        replace AM : Hid (wB.ownsRow w.heap.size 62 2 (.slice Ab sa.mail.length Ad) sa.mail.length (sa.mail.flatMap encM)) := own_below AM.out hb (Nat.le_refl _)
        replace A : Hid (BX 28 wB q2 #[.int .i64 sa.step, .int .i64 sa.phase, .bool sa.fresh, .slice Aa sa.vals.length Ac, .slice Ab sa.mail.length Ad]) := A.out.below hb A.out.lt
        replace BV : Hid (wB.ownsRow w.heap.size 53 2 (.slice Ba sb.vals.length Bc) sb.vals.length (sb.vals.flatMap encM)) := own_below BV.out hb (Nat.le_refl _)
        replace BM : Hid (wB.ownsRow w.heap.size 62 2 (.slice Bb sb.mail.length Bd) sb.mail.length (sb.mail.flatMap encM)) := own_below BM.out hb (Nat.le_refl _)
        replace B : Hid (BX 28 wB q3 #[.int .i64 sb.step, .int .i64 sb.phase, .bool sb.fresh, .slice Ba sb.vals.length Bc, .slice Bb sb.mail.length Bd]) := B.out.below hb B.out.lt
        replace NV : Hid (wB.ownsRow w.heap.size 53 2 (.slice Na gt.vals.length Nc) gt.vals.length (gt.vals.flatMap encM)) := own_below NV.out hb (Nat.le_refl _)
        replace NM : Hid (wB.ownsRow w.heap.size 62 2 (.slice Nb gt.mail.length Nd) gt.mail.length (gt.mail.flatMap encM)) := own_below NM.out hb (Nat.le_refl _)
        replace N : Hid (BX 28 wB q4 #[.int .i64 gt.step, .int .i64 gt.phase, .bool gt.fresh, .slice Na gt.vals.length Nc, .slice Nb gt.mail.length Nd]) := N.out.below hb N.out.lt
        clear hb hr z208_0 z208_1 z208_2 z208_3 z208_4 z209_0 z209_1 z209_2 z209_3 z209_4 z210_0 z210_1 z210_2 z210_3 z210_4
        go_wp2_with fail
        go_ret
        exact ⟨rfl, LB.out⟩
    · obtain ⟨rfl, rfl⟩ : gt = sv0 ∧ te = 7 := by
        rcases HN.out with ⟨_, _, h3⟩ | ⟨h1, _⟩
        · injection h3 with h3 h4
          exact ⟨h3, h4⟩
        · omega
      clear HG HN
      go_wp2_with fail
      go_ret
      exact ⟨rfl, LB.out⟩

set_option maxHeartbeats 400000 in
set_option maxRecDepth 100000 in
theorem lifted (os : Os) (started : os.Started) (H : Type) (enc : TypeId × Value → H) :
    ReturnsInHanded {} Tryz.checked os 5 .any (fun w args => (Rows.ckptNewestSpec.pre enc Tryz.prog Tryz.f5 Rows.ckptNewestRow.domain false w args ∧ laidMetH Tryz.prog Rows.ckptNewestRow.laid w) ∧ sizedMet enc Tryz.prog Tryz.f5 (OpenSpec.ofChange Rows.ckptNewestSpec) false w args) (Rows.ckptNewestSpec.post enc Tryz.prog Tryz.f5 false true false false) := by
  refine returns_laid (C := Tryz.checked) (X := fun w _ => laidMetH Tryz.prog Rows.ckptNewestRow.laid w) (fun _ _ _ hh h => h.of_heap hh) own started (by kernel_rfl) Tryz.func5
    (ChangeSpec.witness_shaped (enc := enc) (C := Tryz.checked) (os := os) (X := fun w _ => laidMetH Tryz.prog Rows.ckptNewestRow.laid w) false (World.doorLaid Tryz.prog 400 os) #[.agg #[.int .i64 0, .int .i64 0, .bool false, .slice none 0 0, .slice none 0 0], .agg #[.int .i64 0, .int .i64 0, .bool false, .slice none 0 0, .slice none 0 0], .int .i64 0, .int .i64 0] 8 rfl (World.shaped_of_RefB (by kernel_rfl) (by kernel_rfl)) (by kernel_rfl) (by kernel_rfl) (by kernel_rfl) (ckptNewest_met os _)) ?_
  intro W base args ds gs before hval0 hW _ hsz0 hsh hL _
  have hval : ∀ (j : Nat) t v, Tryz.f5.params[j]? = some t → args[j]? = some v → Value.okWide Tryz.prog W .any base t v := hval0
  have hW' := hW
  obtain ⟨p, q, hA0, hV, rfl, hfz, hnd⟩ := hW
  have hA : DataW.TrodAll enc Tryz.prog W 0 (fun _ => true) true Tryz.f5.params.toList args.toList ds p := hA0
  have hsz : (DataW.weightsEach Tryz.prog (Tryz.f5.params.toList ++ Rows.ckptNewestSpec.plain.varTypes Tryz.prog) (ds ++ gs)).all (fun x => decide (x ≤ reachBytes)) = true := hsz0
  rw [Tryz.params5] at hA hval hsz
  obtain ⟨v0, vs0, d0, ds0, p0, q0, hargs, rfl, rfl, h0, r0⟩ := trodAll_cons hA
  obtain ⟨v1, vs1, d1, ds1, p1, q1, rfl, rfl, rfl, h1, r1⟩ := trodAll_cons r0
  obtain ⟨v2, vs2, d2, ds2, p2, q2, rfl, rfl, rfl, h2, r2⟩ := trodAll_cons r1
  obtain ⟨v3, vs3, d3, ds3, p3, q3, rfl, rfl, rfl, h3, r3⟩ := trodAll_cons r2
  obtain ⟨rfl, rfl, rfl⟩ := trodAll_nil r3
  obtain rfl : args = #[v0, v1, v2, v3] := by cases args; simp_all
  obtain ⟨rfl, rfl⟩ := trodVars_none hV
  have k0 := h0
  have lt0 : ∀ x ∈ p0, x.block < W.heap.size := by obtain ⟨m, hm⟩ := k0; exact DataW.trod_lt m _ _ _ hm
  have hw0 : ∀ m ∈ d0.weights Tryz.prog 24, m ≤ reachBytes := fun m hm => by simpa using List.all_eq_true.1 hsz _ (DataW.weights_mem_each (j := 0) (t := 24) rfl rfl m hm)
  have k1 := h1
  have lt1 : ∀ x ∈ p1, x.block < W.heap.size := by obtain ⟨m, hm⟩ := k1; exact DataW.trod_lt m _ _ _ hm
  have hw1 : ∀ m ∈ d1.weights Tryz.prog 24, m ≤ reachBytes := fun m hm => by simpa using List.all_eq_true.1 hsz _ (DataW.weights_mem_each (j := 1) (t := 24) rfl rfl m hm)
  have k2 := h2
  have lt2 : ∀ x ∈ p2, x.block < W.heap.size := by obtain ⟨m, hm⟩ := k2; exact DataW.trod_lt m _ _ _ hm
  have k3 := h3
  have lt3 : ∀ x ∈ p3, x.block < W.heap.size := by obtain ⟨m, hm⟩ := k3; exact DataW.trod_lt m _ _ _ hm
  obtain ⟨T0, vv0, vm0, rfl, hN0, hV0, hM0, hB0⟩ := open_kept (okWide_struct Tryz.underlying24 (hval 0 24 v0 rfl rfl)) h0 hw0
  obtain ⟨T1, vv1, vm1, rfl, hN1, hV1, hM1, hB1⟩ := open_kept (okWide_struct Tryz.underlying24 (hval 1 24 v1 rfl rfl)) h1 hw1
  obtain ⟨n2, rfl, _, _, wf2⟩ := open_int Tryz.underlying3 (hval 2 3 v2 rfl rfl) h2
  have hI2 := bounds_i64 wf2
  obtain ⟨n3, rfl, _, _, wf3⟩ := open_int Tryz.underlying3 (hval 3 3 v3 rfl rfl) h3
  have hI3 := bounds_i64 wf3
  clear hA0 hval0
  refine (walk T0 vv0 vm0 T1 vv1 vm1 n2 n3 W hN0 hV0 hM0 hB0 hN1 hV1 hM1 hB1 hI2 hI3 (no_facts hL hsh)).mono fun e W' ⟨he, bel⟩ => ?_
  subst he
  exact ⟨_, rfl, _, _, _, [], _, [], hW', trodAll_mk1 (shut_bool Tryz.underlying4 _), (trodAll_cons_mk (Below.trod laidOut (by kernel_rfl) (of_decide_eq_true (by kernel_rfl)) k0 bel lt0) (trodAll_cons_mk (Below.trod laidOut (by kernel_rfl) (of_decide_eq_true (by kernel_rfl)) k1 bel lt1) (trodAll_cons_mk (Below.trod laidOut (by kernel_rfl) (of_decide_eq_true (by kernel_rfl)) k2 bel lt2) (trodAll_cons_mk (Below.trod laidOut (by kernel_rfl) (of_decide_eq_true (by kernel_rfl)) k3 bel lt3) trodAll_mk0)))), rfl, bel.frame _, fun h => by cases h⟩

theorem over : Rows.ckptNewestRow.holds Tryz.pinned (OpenSpec.ofChange Rows.ckptNewestSpec) :=
  OpenClaim.holds_of_wide 5 Tryz.f5 rfl rfl rfl rfl rfl rfl rfl ⟨rfl, rfl, rfl, rfl, rfl⟩ rfl rfl rfl rfl rfl (by kernel_rfl) Tryz.func5 (by kernel_rfl)
    (of_decide_eq_true (by kernel_rfl)) (by unfold Func.isWrapper; first | (rw [if_pos (by decide +kernel)]; kernel_rfl) | (rw [if_neg (by decide +kernel)]; exact ⟨rfl, rfl⟩))
    (fun os started H enc _ => lifted os started H enc)

/-- The card: what the row lists is tied to the program's text. -/
theorem proved : Rows.CkptNewestCardSaid :=
  Claim7.holds_tied_plain_at .later [] [.data, .data, .data] true (true, "7589c64c7087c3bf6730f2df7ba050d35ac8eda433249b14bcc41f2a7d036b6d") false
    over (fun _ h => by cases h) (by kernel_rfl) (fun _ h => by cases h) ckptNewest_row_tie rfl ⟨rfl, rfl⟩ (by kernel_rfl) rfl
    (fun f fn hf hfn => by
      obtain rfl : f = 5 := Option.some.inj ((show Tryz.prog.funcNamed Rows.ckptNewestRow.func = some 5 by kernel_rfl).symm.trans hf) |>.symm
      obtain rfl : fn = Tryz.f5 := (Option.some.inj (Tryz.func5.symm.trans hfn)).symm
      exact ⟨by kernel_rfl, fun j t ht => by
        rw [Tryz.params5] at ht
        rcases j with _ | j
        · obtain rfl : t = 24 := by simpa using ht.symm
          exact (show Tryz.prog.wantsStandIn 24 = false by kernel_rfl)
        rcases j with _ | j
        · obtain rfl : t = 24 := by simpa using ht.symm
          exact (show Tryz.prog.wantsStandIn 24 = false by kernel_rfl)
        rcases j with _ | j
        · obtain rfl : t = 3 := by simpa using ht.symm
          exact (show Tryz.prog.wantsStandIn 3 = false by kernel_rfl)
        rcases j with _ | j
        · obtain rfl : t = 3 := by simpa using ht.symm
          exact (show Tryz.prog.wantsStandIn 3 = false by kernel_rfl)
        simp at ht⟩)
    (by kernel_rfl)
#print axioms proved
end Go.Proofs.YtkgdenbabafeoaaGreatDoor.ckptNewest
