/-
  For every disk and whatever is saved ckpt.Put answers what P14.5 says and leaves its arguments alone (the law CkptPuts returns true, and its arguments read as before); no condition.
-/
import Derived.Test.YtbfkmakfkbdafaaDiskOpen
import Derived.Test.YtbfkmakfkbdafaaSavedOpen
import Derived.Test.YtbfkmakfkbdafaaCkptPutsPartA
import Derived.Test.YtbfkmakfkbdafaaCkptPutsPartB
import Derived.WalkKit
import Derived.ProofKit
import Derived.OpenShut
import Derived.ShutString
import Derived.SizedLaws
import Derived.ChangeOld
import Derived.Below
namespace Go.Proofs.Ytbfkmakfkbdafaa.ckptPuts
set_option maxRecDepth 100000
open Go.ChangeShapes Go.WideShapes Go.ChangeAt Go.RowKit

theorem own : ownKnob Try.prog.godebug = none := by kernel_rfl
theorem laidOut : laidOutB Try.prog = true := by kernel_rfl

set_option maxHeartbeats 2000000 in
set_option maxRecDepth 100000 in
theorem walk (v0 : Value) (fs0 : List FileL) (T1 : SvS) (vv1 vm1 : Value) (w : World) (hD0 : DiskR w v0 fs0) (hG0 : Good fs0) (hL0 : fs0.length * 48 ≤ 140737488351232) (hN1 : i64B T1.step ∧ i64B T1.phase) (hV1 : MlR w vv1 T1.vals) (hM1 : MlR w vm1 T1.mail) (hB1 : SavB T1) :
    Calls Try.prog 5 #[.agg #[v0], .agg #[.int .i64 T1.step, .int .i64 T1.phase, .bool T1.fresh, vv1, vm1]] w fun e w' => e = .returned (.bool true) ∧ Below w.heap.size w w' := by
  have _u := hD0
  clear _u
  have _u := hG0
  clear _u
  have _u := hL0
  clear _u
  have _u := hN1
  clear _u
  have _u := hV1
  clear _u
  have _u := hM1
  clear _u
  have _u := hB1
  clear _u
  have HD : Hid (DiskR w v0 fs0) := hD0
  have HGD : Hid (Good fs0) := hG0
  have HV : Hid (MlR w vv1 T1.vals) := hV1
  have HM : Hid (MlR w vm1 T1.mail) := hM1
  have HSB : Hid (SavB T1) := hB1
  have HGR : Hid (Good (putE fs0 (encS T1)).1) := good_putE hG0 (encS_bd T1)
  obtain ⟨a, cap, rfl, _, _, _, _⟩ := hD0
  obtain ⟨va, vc, rfl⟩ := hV1.shape
  obtain ⟨ma, mc, rfl⟩ := hM1.shape
  obtain ⟨W0, hW0⟩ : ∃ W0, W0 = (w.alloc (.cells #[.slice a fs0.length cap] 40)).alloc (.cells #[.int .i64 T1.step, .int .i64 T1.phase, .bool T1.fresh, .slice va T1.vals.length vc, .slice ma T1.mail.length mc] 25) := ⟨_, rfl⟩
  obtain ⟨Q0, S0, B0, s1, s2⟩ := boxes2 w #[.slice a fs0.length cap] #[.int .i64 T1.step, .int .i64 T1.phase, .bool T1.fresh, .slice va T1.vals.length vc, .slice ma T1.mail.length mc] 40 25 W0 hW0
  have BH : Hid (Below w.heap.size w W0) := B0
  have HK : Hid (∀ X, Below W0.heap.size W0 X → BX 40 X w.heap.size #[.slice a fs0.length cap] ∧ BX 25 X (w.heap.size + 1) #[.int .i64 T1.step, .int .i64 T1.phase, .bool T1.fresh, .slice va T1.vals.length vc, .slice ma T1.mail.length mc] ∧ Below w.heap.size w X ∧ DiskR X (.slice a fs0.length cap) fs0 ∧ MlR X (.slice va T1.vals.length vc) T1.vals ∧ MlR X (.slice ma T1.mail.length mc) T1.mail) := fun X hX => by
    have hb := BH.out.trans (hX.mono (show w.heap.size ≤ W0.heap.size by omega))
    exact ⟨Q0.below hX (by omega), S0.below hX (by omega), hb, HD.out.below hb (Nat.le_refl _), HV.out.below hb (Nat.le_refl _), HM.out.below hb (Nat.le_refl _)⟩
  have A0 : Hid (Below W0.heap.size W0 W0) := Below.refl _ _
  obtain ⟨q0, _⟩ := Q0.all1
  have HJ : Hid (∀ X, MlR X (.slice va T1.vals.length vc) T1.vals → MlR X (.slice ma T1.mail.length mc) T1.mail → Calls Try.prog 6 #[.agg #[.int .i64 T1.step, .int .i64 T1.phase, .bool T1.fresh, .slice va T1.vals.length vc, .slice ma T1.mail.length mc]] X fun e w' => ∃ v, e = .returned v ∧ (∃ v1 v2, v = .agg #[.int .i64 T1.step, .int .i64 T1.phase, .bool T1.fresh, v1, v2] ∧ MlR w' v1 T1.vals ∧ MlR w' v2 T1.mail ∧ Below X.heap.size X w')) := fun X h1 h2 => (saveds_any T1 _ _ X h1 h2 HSB.out).mono fun e w' ⟨v1, v2, h1, h2, h3, h4⟩ => ⟨_, h1, v1, v2, rfl, RowK.own encM_len h2, RowK.own encM_len h3, h4⟩
  have HC : Hid (∀ X u v1 v2, DiskR X u fs0 → MlR X v1 T1.vals → MlR X v2 T1.mail → Calls Try.prog 15 #[.agg #[u], .agg #[.int .i64 T1.step, .int .i64 T1.phase, .bool T1.fresh, v1, v2]] X fun e w' => ∃ v, e = .returned v ∧ (∃ u', v = .tuple #[.agg #[u'], .int .i64 (putE fs0 (encS T1)).2] ∧ DiskR w' u' (putE fs0 (encS T1)).1 ∧ Below X.heap.size X w')) := fun X u v1 v2 h1 h2 h3 => (ckPut_any u fs0 T1 v1 v2 X h1 HGD.out h2 h3 HSB.out.2.1).mono fun e w' ⟨u', h1, h2⟩ => ⟨_, h1, u', rfl, h2⟩
  have HF : Hid (∀ X, DiskR X (.slice a fs0.length cap) fs0 → MlR X (.slice va T1.vals.length vc) T1.vals → MlR X (.slice ma T1.mail.length mc) T1.mail → Calls Try.prog 16 #[.agg #[.slice a fs0.length cap], .agg #[.int .i64 T1.step, .int .i64 T1.phase, .bool T1.fresh, .slice va T1.vals.length vc, .slice ma T1.mail.length mc]] X (DskP X (putE fs0 (encS T1)))) := fun X h1 h2 h3 => putSaved_any _ fs0 T1 _ _ X h1 HGD.out h2 h3 hL0
  clear Q0 S0 B0 hV1 hM1 hB1 hG0
  generalize putE fs0 (encS T1) = R at *
  have te : (R.2 == R.2) = true := by simp
  go_enter Try.func5, Try.ntmps5
  go_upto_region 1 with fail
  rw [← hW0]
  clear hW0
  go_wp2_with fail
  refine (disks_any _ fs0 _ (HK.out _ A0.out).2.2.2.1 HGD.out hL0).mono ?_
  rintro e w1 ⟨u1, rfl, hu1, hb1⟩
  obtain ⟨ca, cc, eu, _, _, _, _⟩ := id hu1
  subst eu
  have hs1 := hb1.size
  have W1 : Hid (Below W0.heap.size W0 (w1.alloc (.cells #[.slice ca fs0.length cc] 40)) ∧ BX 40 (w1.alloc (.cells #[.slice ca fs0.length cc] 40)) w1.heap.size #[.slice ca fs0.length cc] ∧ DiskR (w1.alloc (.cells #[.slice ca fs0.length cc] 40)) (.slice ca fs0.length cc) fs0 ∧ W0.heap.size ≤ w1.heap.size) := ⟨hb1.alloc hs1 _, BX.new _ _ _, hu1.below (below_alloc _ _) (Nat.le_refl _), hs1⟩
  clear hu1 hb1 q0 hs1
  go_upto_region 2 with fail
  generalize w1.alloc (.cells #[.slice ca fs0.length cc] 40) = w3 at *
  generalize w1.heap.size = b3 at *
  obtain ⟨A3', X3', D3', hb3⟩ := W1.out
  have A3 : Hid (Below W0.heap.size W0 w3) := A3'
  have X3 : Hid (BX 40 w3 b3 #[.slice ca fs0.length cc]) := X3'
  have D3 : Hid (DiskR w3 (.slice ca fs0.length cc) fs0) := D3'
  clear A3' X3' D3' W1
  have hs3 := A3.out.size
  have hl3 := X3.out.lt
  have KEEP : Hid (∀ V, Below w3.heap.size w3 V → (V.cell? ⟨b3, 0, none⟩ = some (.slice ca fs0.length cc) ∧ (V.cell? ⟨w.heap.size + 1, 0, none⟩ = some (.int .i64 T1.step) ∧ V.cell? ⟨w.heap.size + 1, 1, none⟩ = some (.int .i64 T1.phase) ∧ V.cell? ⟨w.heap.size + 1, 2, none⟩ = some (.bool T1.fresh) ∧ V.cell? ⟨w.heap.size + 1, 3, none⟩ = some (.slice va T1.vals.length vc) ∧ V.cell? ⟨w.heap.size + 1, 4, none⟩ = some (.slice ma T1.mail.length mc)))) := fun V hV => ⟨(X3.out.below hV hl3).all1.1, (HK.out _ (A3.out.trans (hV.mono hs3))).2.1.all5⟩
  have KV : Hid (∀ V, Below w3.heap.size w3 V → MlR V (.slice va T1.vals.length vc) T1.vals ∧ MlR V (.slice ma T1.mail.length mc) T1.mail ∧ DiskR V (.slice ca fs0.length cc) fs0) := fun V hV => ⟨(HK.out _ (A3.out.trans (hV.mono hs3))).2.2.2.2.1, (HK.out _ (A3.out.trans (hV.mono hs3))).2.2.2.2.2, D3.out.below hV (Nat.le_refl _)⟩
  have b0 : Below w3.heap.size w3 w3.drew := (Below.refl _ _).drew
  have HS0 : Hid (w3.drew.cell? ⟨b3, 0, none⟩ = some (.slice ca fs0.length cc) ∧ (w3.drew.cell? ⟨w.heap.size + 1, 0, none⟩ = some (.int .i64 T1.step) ∧ w3.drew.cell? ⟨w.heap.size + 1, 1, none⟩ = some (.int .i64 T1.phase) ∧ w3.drew.cell? ⟨w.heap.size + 1, 2, none⟩ = some (.bool T1.fresh) ∧ w3.drew.cell? ⟨w.heap.size + 1, 3, none⟩ = some (.slice va T1.vals.length vc) ∧ w3.drew.cell? ⟨w.heap.size + 1, 4, none⟩ = some (.slice ma T1.mail.length mc))) := KEEP.out w3.drew b0
  have ej : ∀ args w, (callFunc 6 args).run Try.prog w = .ok (.enter 6 args) w := enters_of Try.func6 (by kernel_rfl) rfl
  have en : ∀ args w, (callFunc 15 args).run Try.prog w = .ok (.enter 15 args) w := enters_of Try.func15 (by kernel_rfl) rfl
  apply Hid.cut
  case h =>
    intro HG
    refine wp_region_held (S := fun V => (V.cell? ⟨b3, 0, none⟩ = some (.slice ca fs0.length cc) ∧ (V.cell? ⟨w.heap.size + 1, 0, none⟩ = some (.int .i64 T1.step) ∧ V.cell? ⟨w.heap.size + 1, 1, none⟩ = some (.int .i64 T1.phase) ∧ V.cell? ⟨w.heap.size + 1, 2, none⟩ = some (.bool T1.fresh) ∧ V.cell? ⟨w.heap.size + 1, 3, none⟩ = some (.slice va T1.vals.length vc) ∧ V.cell? ⟨w.heap.size + 1, 4, none⟩ = some (.slice ma T1.mail.length mc)))) (by kernel_rfl) ?_
    simp only [List.size_toArray, List.length_cons, List.length_nil, Nat.reduceAdd]
    refine takeH (i := 0) (v := .agg #[.slice ca fs0.length cc]) (d := 13) rfl rfl (by kernel_rfl) (by kernel_rfl) (by kernel_rfl) (fun _ _ _ h => h) (by rfl) (fun V hV => by obtain ⟨v1, u1, u2, u3, u4, u5⟩ := hV; go_simp) HS0.out ?_
    simp only [Act.put, List.setIfInBounds_toArray, List.set_cons_zero, List.set_cons_succ]
    refine takeH (i := 1) (v := .agg #[.int .i64 T1.step, .int .i64 T1.phase, .bool T1.fresh, .slice va T1.vals.length vc, .slice ma T1.mail.length mc]) (d := 14) rfl rfl (by kernel_rfl) (by kernel_rfl) (by kernel_rfl) (fun _ _ _ h => h) (by rfl) (fun V hV => by obtain ⟨v1, u1, u2, u3, u4, u5⟩ := hV; go_simp) HS0.out ?_
    simp only [Act.put, List.setIfInBounds_toArray, List.set_cons_zero, List.set_cons_succ]
    refine twoH (i := 2) (j := 7) rfl rfl (by kernel_rfl) rfl rfl ?w1j ?w1x
    case w1j =>
      refine call_gets (d := 15) (f := 6) (xs := #[.tmp 14]) (ats := #[25]) rfl rfl ej (vs := #[.agg #[.int .i64 T1.step, .int .i64 T1.phase, .bool T1.fresh, .slice va T1.vals.length vc, .slice ma T1.mail.length mc]]) (by simp [Act.eval]) (HJ.out w3.drew (KV.out _ (b0)).1 (KV.out _ (b0)).2.1) ?_
      rintro vr wj1 ⟨v1, v2, rfl, hv1, hv2, hb⟩
      have wj1_b : Below w3.heap.size w3 wj1 := (b0).trans (hb.mono (Below.size (b0)))
      have EV : Hid (MlR wj1 v1 T1.vals ∧ MlR wj1 v2 T1.mail) := ⟨hv1, hv2⟩
      obtain ⟨x1, k1, rfl⟩ := hv1.shape
      obtain ⟨x2, k2, rfl⟩ := hv2.shape
      refine ⟨KEEP.out _ wj1_b, ?_⟩
      simp only [Act.put, List.setIfInBounds_toArray, List.set_cons_zero, List.set_cons_succ]
      clear hv1 hv2 hb
      refine twoH (i := 3) (j := 7) rfl rfl (by kernel_rfl) rfl rfl ?w2n ?w2x
      case w2n =>
        refine call_gets (d := 16) (f := 15) (xs := #[.tmp 13, .tmp 15]) (ats := #[40, 25]) rfl rfl en (vs := #[.agg #[.slice ca fs0.length cc], .agg #[.int .i64 T1.step, .int .i64 T1.phase, .bool T1.fresh, .slice x1 T1.vals.length k1, .slice x2 T1.mail.length k2]]) (by simp [Act.eval]) (HC.out wj1 _ _ _ (KV.out _ (wj1_b)).2.2 EV.out.1 EV.out.2) ?_
        rintro vr wn2 ⟨u5, rfl, hu5, hb⟩
        have wn2_b : Below w3.heap.size w3 wn2 := (wj1_b).trans (hb.mono (Below.size (wj1_b)))
        obtain ⟨a5, c5, eu⟩ : ∃ a c, u5 = .slice a R.1.length c := by obtain ⟨a, c, e, _⟩ := hu5; exact ⟨a, c, e⟩
        subst eu
        have OD : Hid (DiskR wn2 (.slice a5 R.1.length c5) R.1) := hu5
        have HS_n : Hid (wn2.cell? ⟨b3, 0, none⟩ = some (.slice ca fs0.length cc) ∧ (wn2.cell? ⟨w.heap.size + 1, 0, none⟩ = some (.int .i64 T1.step) ∧ wn2.cell? ⟨w.heap.size + 1, 1, none⟩ = some (.int .i64 T1.phase) ∧ wn2.cell? ⟨w.heap.size + 1, 2, none⟩ = some (.bool T1.fresh) ∧ wn2.cell? ⟨w.heap.size + 1, 3, none⟩ = some (.slice va T1.vals.length vc) ∧ wn2.cell? ⟨w.heap.size + 1, 4, none⟩ = some (.slice ma T1.mail.length mc))) := KEEP.out _ wn2_b
        refine ⟨HS_n.out, ?_⟩
        simp only [Act.put, List.setIfInBounds_toArray, List.set_cons_zero, List.set_cons_succ]
        clear hu5 hb
        refine takeH (i := 4) (v := .tuple #[.agg #[.slice a5 R.1.length c5], .int .i64 R.2]) (d := 12) rfl rfl (by kernel_rfl) (by kernel_rfl) (by kernel_rfl) (fun _ _ _ h => h) (by rfl) (fun V hV => by obtain ⟨v1, u1, u2, u3, u4, u5⟩ := hV; go_simp) HS_n.out ?_
        simp only [Act.put, List.setIfInBounds_toArray, List.set_cons_zero, List.set_cons_succ]
        refine takeH (i := 5) (v := .agg #[.slice a5 R.1.length c5]) (d := 17) rfl rfl (by kernel_rfl) (by kernel_rfl) (by kernel_rfl) (fun _ _ _ h => h) (by rfl) (fun V hV => by obtain ⟨v1, u1, u2, u3, u4, u5⟩ := hV; go_simp) HS_n.out ?_
        simp only [Act.put, List.setIfInBounds_toArray, List.set_cons_zero, List.set_cons_succ]
        refine takeH (i := 6) (v := .int .i64 R.2) (d := 18) rfl rfl (by kernel_rfl) (by kernel_rfl) (by kernel_rfl) (fun _ _ _ h => h) (by rfl) (fun V hV => by obtain ⟨v1, u1, u2, u3, u4, u5⟩ := hV; go_simp) HS_n.out ?_
        simp only [Act.put, List.setIfInBounds_toArray, List.set_cons_zero, List.set_cons_succ]
        refine oneH (i := 7) rfl (by kernel_rfl) rfl (op_run (d := 6) (v' := .pointer (some ⟨wn2.heap.size, 0, none⟩)) (w' := wn2.alloc (.cells #[.slice none 0 0] 40)) rfl (by go_simp) ⟨KEEP.out _ (Below.alloc (wn2_b) (Below.size (wn2_b)) _), ?_⟩)
        simp only [Act.put, List.setIfInBounds_toArray, List.set_cons_zero, List.set_cons_succ]
        have wx3_b : Below w3.heap.size w3 (wn2.alloc (.cells #[.slice none 0 0] 40)) := Below.alloc (wn2_b) (Below.size (wn2_b)) _
        have NZ : Hid (BX 40 (wn2.alloc (.cells #[.slice none 0 0] 40)) (wn2.heap.size) #[.slice none 0 0]) := BX.new _ _ _
        have LB : Hid (w3.heap.size ≤ wn2.heap.size) := Below.size (wn2_b)
        replace OD : Hid (DiskR (wn2.alloc (.cells #[.slice none 0 0] 40)) (.slice a5 R.1.length c5) R.1) := OD.out.below (below_alloc _ _) (Nat.le_refl _)
        generalize wn2.alloc (.cells #[.slice none 0 0] 40) = wx3 at *
        obtain ⟨bk0, hbk⟩ : ∃ b, b = wn2.heap.size := ⟨_, rfl⟩
        rw [← hbk] at NZ LB ⊢
        clear hbk
        obtain ⟨d0, e0⟩ := NZ.out.all1
        have FB : Hid (Below w3.heap.size w3 (wx3.setCell ⟨bk0, 0, none⟩ (.slice a5 R.1.length c5))) := wx3_b.setCell LB.out _
        have HSF : Hid ((wx3.setCell ⟨bk0, 0, none⟩ (.slice a5 R.1.length c5)).cell? ⟨b3, 0, none⟩ = some (.slice ca fs0.length cc) ∧ ((wx3.setCell ⟨bk0, 0, none⟩ (.slice a5 R.1.length c5)).cell? ⟨w.heap.size + 1, 0, none⟩ = some (.int .i64 T1.step) ∧ (wx3.setCell ⟨bk0, 0, none⟩ (.slice a5 R.1.length c5)).cell? ⟨w.heap.size + 1, 1, none⟩ = some (.int .i64 T1.phase) ∧ (wx3.setCell ⟨bk0, 0, none⟩ (.slice a5 R.1.length c5)).cell? ⟨w.heap.size + 1, 2, none⟩ = some (.bool T1.fresh) ∧ (wx3.setCell ⟨bk0, 0, none⟩ (.slice a5 R.1.length c5)).cell? ⟨w.heap.size + 1, 3, none⟩ = some (.slice va T1.vals.length vc) ∧ (wx3.setCell ⟨bk0, 0, none⟩ (.slice a5 R.1.length c5)).cell? ⟨w.heap.size + 1, 4, none⟩ = some (.slice ma T1.mail.length mc))) := KEEP.out _ FB.out
        have FX : Hid (BX 40 (wx3.setCell ⟨bk0, 0, none⟩ (.slice a5 R.1.length c5)) bk0 #[.slice a5 R.1.length c5]) := NZ.out.set 0 _
        have FD : Hid (DiskR (wx3.setCell ⟨bk0, 0, none⟩ (.slice a5 R.1.length c5)) (.slice a5 R.1.length c5) R.1) := OD.out.setBox NZ.out
        refine oneH (i := 8) rfl (by kernel_rfl) rfl (op_skip (w' := (wx3.setCell ⟨bk0, 0, none⟩ (.slice a5 R.1.length c5))) rfl (by go_simp) ⟨HSF.out, ?_⟩)
        refine takeH (i := 9) (v := .int .i64 R.2) (d := 7) rfl rfl (by kernel_rfl) (by kernel_rfl) (by kernel_rfl) (fun _ _ _ h => h) (by rfl) (fun V hV => by obtain ⟨v1, u1, u2, u3, u4, u5⟩ := hV; go_simp) HSF.out ?_
        simp only [Act.put, List.setIfInBounds_toArray, List.set_cons_zero, List.set_cons_succ]
        refine wpAnyH_done (by kernel_rfl) ?_ _
        clear HSF d0 e0 NZ OD EV
        generalize wx3.setCell ⟨bk0, 0, none⟩ (.slice a5 R.1.length c5) = WF at *
        revert LB
        revert FB
        revert FD
        revert FX
        revert WF
        revert bk0
        revert c5
        revert a5
        revert k2
        revert x2
        revert k1
        revert x1
        exact HG.out
      case w2x =>
        refine op_run (d := 6) (v' := .pointer (some ⟨wj1.heap.size, 0, none⟩)) (w' := wj1.alloc (.cells #[.slice none 0 0] 40)) rfl (by go_simp) ⟨KEEP.out _ (Below.alloc (wj1_b) (Below.size (wj1_b)) _), ?_⟩
        simp only [Act.put, List.setIfInBounds_toArray, List.set_cons_zero, List.set_cons_succ]
        have wx2_b : Below w3.heap.size w3 (wj1.alloc (.cells #[.slice none 0 0] 40)) := Below.alloc (wj1_b) (Below.size (wj1_b)) _
        have NX : Hid (BX 40 (wj1.alloc (.cells #[.slice none 0 0] 40)) (wj1.heap.size) #[.slice none 0 0]) := BX.new _ _ _
        have LB : Hid (w3.heap.size ≤ wj1.heap.size) := Below.size (wj1_b)
        replace EV : Hid (MlR (wj1.alloc (.cells #[.slice none 0 0] 40)) (.slice x1 T1.vals.length k1) T1.vals ∧ MlR (wj1.alloc (.cells #[.slice none 0 0] 40)) (.slice x2 T1.mail.length k2) T1.mail) := ⟨EV.out.1.below (below_alloc _ _) (Nat.le_refl _), EV.out.2.below (below_alloc _ _) (Nat.le_refl _)⟩
        generalize wj1.alloc (.cells #[.slice none 0 0] 40) = wx2 at *
        obtain ⟨bk0, hbk⟩ : ∃ b, b = wj1.heap.size := ⟨_, rfl⟩
        rw [← hbk] at NX LB ⊢
        clear hbk
        refine oneH (i := 3) rfl (by kernel_rfl) rfl (call_gets (d := 16) (f := 15) (xs := #[.tmp 13, .tmp 15]) (ats := #[40, 25]) rfl rfl en (vs := #[.agg #[.slice ca fs0.length cc], .agg #[.int .i64 T1.step, .int .i64 T1.phase, .bool T1.fresh, .slice x1 T1.vals.length k1, .slice x2 T1.mail.length k2]]) (by simp [Act.eval]) (HC.out wx2 _ _ _ (KV.out _ (wx2_b)).2.2 EV.out.1 EV.out.2) ?_)
        rintro vr wn3 ⟨u5, rfl, hu5, hb⟩
        have wn3_b : Below w3.heap.size w3 wn3 := (wx2_b).trans (hb.mono (Below.size (wx2_b)))
        obtain ⟨a5, c5, eu⟩ : ∃ a c, u5 = .slice a R.1.length c := by obtain ⟨a, c, e, _⟩ := hu5; exact ⟨a, c, e⟩
        subst eu
        have OD : Hid (DiskR wn3 (.slice a5 R.1.length c5) R.1) := hu5
        have NZ : Hid (BX 40 wn3 bk0 #[.slice none 0 0]) := NX.out.below hb NX.out.lt
        have HS_n : Hid (wn3.cell? ⟨b3, 0, none⟩ = some (.slice ca fs0.length cc) ∧ (wn3.cell? ⟨w.heap.size + 1, 0, none⟩ = some (.int .i64 T1.step) ∧ wn3.cell? ⟨w.heap.size + 1, 1, none⟩ = some (.int .i64 T1.phase) ∧ wn3.cell? ⟨w.heap.size + 1, 2, none⟩ = some (.bool T1.fresh) ∧ wn3.cell? ⟨w.heap.size + 1, 3, none⟩ = some (.slice va T1.vals.length vc) ∧ wn3.cell? ⟨w.heap.size + 1, 4, none⟩ = some (.slice ma T1.mail.length mc))) := KEEP.out _ wn3_b
        refine ⟨HS_n.out, ?_⟩
        simp only [Act.put, List.setIfInBounds_toArray, List.set_cons_zero, List.set_cons_succ]
        clear hu5 hb
        refine takeH (i := 4) (v := .tuple #[.agg #[.slice a5 R.1.length c5], .int .i64 R.2]) (d := 12) rfl rfl (by kernel_rfl) (by kernel_rfl) (by kernel_rfl) (fun _ _ _ h => h) (by rfl) (fun V hV => by obtain ⟨v1, u1, u2, u3, u4, u5⟩ := hV; go_simp) HS_n.out ?_
        simp only [Act.put, List.setIfInBounds_toArray, List.set_cons_zero, List.set_cons_succ]
        refine takeH (i := 5) (v := .agg #[.slice a5 R.1.length c5]) (d := 17) rfl rfl (by kernel_rfl) (by kernel_rfl) (by kernel_rfl) (fun _ _ _ h => h) (by rfl) (fun V hV => by obtain ⟨v1, u1, u2, u3, u4, u5⟩ := hV; go_simp) HS_n.out ?_
        simp only [Act.put, List.setIfInBounds_toArray, List.set_cons_zero, List.set_cons_succ]
        refine takeH (i := 6) (v := .int .i64 R.2) (d := 18) rfl rfl (by kernel_rfl) (by kernel_rfl) (by kernel_rfl) (fun _ _ _ h => h) (by rfl) (fun V hV => by obtain ⟨v1, u1, u2, u3, u4, u5⟩ := hV; go_simp) HS_n.out ?_
        simp only [Act.put, List.setIfInBounds_toArray, List.set_cons_zero, List.set_cons_succ]
        obtain ⟨d0, e0⟩ := NZ.out.all1
        have FB : Hid (Below w3.heap.size w3 (wn3.setCell ⟨bk0, 0, none⟩ (.slice a5 R.1.length c5))) := wn3_b.setCell LB.out _
        have HSF : Hid ((wn3.setCell ⟨bk0, 0, none⟩ (.slice a5 R.1.length c5)).cell? ⟨b3, 0, none⟩ = some (.slice ca fs0.length cc) ∧ ((wn3.setCell ⟨bk0, 0, none⟩ (.slice a5 R.1.length c5)).cell? ⟨w.heap.size + 1, 0, none⟩ = some (.int .i64 T1.step) ∧ (wn3.setCell ⟨bk0, 0, none⟩ (.slice a5 R.1.length c5)).cell? ⟨w.heap.size + 1, 1, none⟩ = some (.int .i64 T1.phase) ∧ (wn3.setCell ⟨bk0, 0, none⟩ (.slice a5 R.1.length c5)).cell? ⟨w.heap.size + 1, 2, none⟩ = some (.bool T1.fresh) ∧ (wn3.setCell ⟨bk0, 0, none⟩ (.slice a5 R.1.length c5)).cell? ⟨w.heap.size + 1, 3, none⟩ = some (.slice va T1.vals.length vc) ∧ (wn3.setCell ⟨bk0, 0, none⟩ (.slice a5 R.1.length c5)).cell? ⟨w.heap.size + 1, 4, none⟩ = some (.slice ma T1.mail.length mc))) := KEEP.out _ FB.out
        have FX : Hid (BX 40 (wn3.setCell ⟨bk0, 0, none⟩ (.slice a5 R.1.length c5)) bk0 #[.slice a5 R.1.length c5]) := NZ.out.set 0 _
        have FD : Hid (DiskR (wn3.setCell ⟨bk0, 0, none⟩ (.slice a5 R.1.length c5)) (.slice a5 R.1.length c5) R.1) := OD.out.setBox NZ.out
        refine oneH (i := 8) rfl (by kernel_rfl) rfl (op_skip (w' := (wn3.setCell ⟨bk0, 0, none⟩ (.slice a5 R.1.length c5))) rfl (by go_simp) ⟨HSF.out, ?_⟩)
        refine takeH (i := 9) (v := .int .i64 R.2) (d := 7) rfl rfl (by kernel_rfl) (by kernel_rfl) (by kernel_rfl) (fun _ _ _ h => h) (by rfl) (fun V hV => by obtain ⟨v1, u1, u2, u3, u4, u5⟩ := hV; go_simp) HSF.out ?_
        simp only [Act.put, List.setIfInBounds_toArray, List.set_cons_zero, List.set_cons_succ]
        refine wpAnyH_done (by kernel_rfl) ?_ _
        exact HG.out x1 k1 x2 k2 a5 c5 _ _ FX FD FB LB
    case w1x =>
      refine op_run (d := 6) (v' := .pointer (some ⟨w3.heap.size, 0, none⟩)) (w' := w3.drew.alloc (.cells #[.slice none 0 0] 40)) rfl (by go_simp) ⟨KEEP.out _ (Below.alloc (b0) (Below.size (b0)) _), ?_⟩
      simp only [Act.put, List.setIfInBounds_toArray, List.set_cons_zero, List.set_cons_succ]
      have wx1_b : Below w3.heap.size w3 (w3.drew.alloc (.cells #[.slice none 0 0] 40)) := Below.alloc (b0) (Below.size (b0)) _
      have NX : Hid (BX 40 (w3.drew.alloc (.cells #[.slice none 0 0] 40)) (w3.heap.size) #[.slice none 0 0]) := BX.new _ _ _
      have LB : Hid (w3.heap.size ≤ w3.heap.size) := Nat.le_refl _
      generalize w3.drew.alloc (.cells #[.slice none 0 0] 40) = wx1 at *
      obtain ⟨bk0, hbk⟩ : ∃ b, b = w3.heap.size := ⟨_, rfl⟩
      replace LB : Hid (w3.heap.size ≤ bk0) := by show _ ≤ _; omega
      rw [← hbk] at NX ⊢
      clear hbk
      refine oneH (i := 2) rfl (by kernel_rfl) rfl (call_gets (d := 15) (f := 6) (xs := #[.tmp 14]) (ats := #[25]) rfl rfl ej (vs := #[.agg #[.int .i64 T1.step, .int .i64 T1.phase, .bool T1.fresh, .slice va T1.vals.length vc, .slice ma T1.mail.length mc]]) (by simp [Act.eval]) (HJ.out wx1 (KV.out _ (wx1_b)).1 (KV.out _ (wx1_b)).2.1) ?_)
      rintro vr wj2 ⟨v1, v2, rfl, hv1, hv2, hb⟩
      have wj2_b : Below w3.heap.size w3 wj2 := (wx1_b).trans (hb.mono (Below.size (wx1_b)))
      have EV : Hid (MlR wj2 v1 T1.vals ∧ MlR wj2 v2 T1.mail) := ⟨hv1, hv2⟩
      obtain ⟨x1, k1, rfl⟩ := hv1.shape
      obtain ⟨x2, k2, rfl⟩ := hv2.shape
      refine ⟨KEEP.out _ wj2_b, ?_⟩
      simp only [Act.put, List.setIfInBounds_toArray, List.set_cons_zero, List.set_cons_succ]
      replace NX : Hid (BX 40 wj2 bk0 #[.slice none 0 0]) := NX.out.below hb NX.out.lt
      clear hv1 hv2 hb
      refine oneH (i := 3) rfl (by kernel_rfl) rfl (call_gets (d := 16) (f := 15) (xs := #[.tmp 13, .tmp 15]) (ats := #[40, 25]) rfl rfl en (vs := #[.agg #[.slice ca fs0.length cc], .agg #[.int .i64 T1.step, .int .i64 T1.phase, .bool T1.fresh, .slice x1 T1.vals.length k1, .slice x2 T1.mail.length k2]]) (by simp [Act.eval]) (HC.out wj2 _ _ _ (KV.out _ (wj2_b)).2.2 EV.out.1 EV.out.2) ?_)
      rintro vr wn3 ⟨u5, rfl, hu5, hb⟩
      have wn3_b : Below w3.heap.size w3 wn3 := (wj2_b).trans (hb.mono (Below.size (wj2_b)))
      obtain ⟨a5, c5, eu⟩ : ∃ a c, u5 = .slice a R.1.length c := by obtain ⟨a, c, e, _⟩ := hu5; exact ⟨a, c, e⟩
      subst eu
      have OD : Hid (DiskR wn3 (.slice a5 R.1.length c5) R.1) := hu5
      have NZ : Hid (BX 40 wn3 bk0 #[.slice none 0 0]) := NX.out.below hb NX.out.lt
      have HS_n : Hid (wn3.cell? ⟨b3, 0, none⟩ = some (.slice ca fs0.length cc) ∧ (wn3.cell? ⟨w.heap.size + 1, 0, none⟩ = some (.int .i64 T1.step) ∧ wn3.cell? ⟨w.heap.size + 1, 1, none⟩ = some (.int .i64 T1.phase) ∧ wn3.cell? ⟨w.heap.size + 1, 2, none⟩ = some (.bool T1.fresh) ∧ wn3.cell? ⟨w.heap.size + 1, 3, none⟩ = some (.slice va T1.vals.length vc) ∧ wn3.cell? ⟨w.heap.size + 1, 4, none⟩ = some (.slice ma T1.mail.length mc))) := KEEP.out _ wn3_b
      refine ⟨HS_n.out, ?_⟩
      simp only [Act.put, List.setIfInBounds_toArray, List.set_cons_zero, List.set_cons_succ]
      clear hu5 hb
      refine takeH (i := 4) (v := .tuple #[.agg #[.slice a5 R.1.length c5], .int .i64 R.2]) (d := 12) rfl rfl (by kernel_rfl) (by kernel_rfl) (by kernel_rfl) (fun _ _ _ h => h) (by rfl) (fun V hV => by obtain ⟨v1, u1, u2, u3, u4, u5⟩ := hV; go_simp) HS_n.out ?_
      simp only [Act.put, List.setIfInBounds_toArray, List.set_cons_zero, List.set_cons_succ]
      refine takeH (i := 5) (v := .agg #[.slice a5 R.1.length c5]) (d := 17) rfl rfl (by kernel_rfl) (by kernel_rfl) (by kernel_rfl) (fun _ _ _ h => h) (by rfl) (fun V hV => by obtain ⟨v1, u1, u2, u3, u4, u5⟩ := hV; go_simp) HS_n.out ?_
      simp only [Act.put, List.setIfInBounds_toArray, List.set_cons_zero, List.set_cons_succ]
      refine takeH (i := 6) (v := .int .i64 R.2) (d := 18) rfl rfl (by kernel_rfl) (by kernel_rfl) (by kernel_rfl) (fun _ _ _ h => h) (by rfl) (fun V hV => by obtain ⟨v1, u1, u2, u3, u4, u5⟩ := hV; go_simp) HS_n.out ?_
      simp only [Act.put, List.setIfInBounds_toArray, List.set_cons_zero, List.set_cons_succ]
      obtain ⟨d0, e0⟩ := NZ.out.all1
      have FB : Hid (Below w3.heap.size w3 (wn3.setCell ⟨bk0, 0, none⟩ (.slice a5 R.1.length c5))) := wn3_b.setCell LB.out _
      have HSF : Hid ((wn3.setCell ⟨bk0, 0, none⟩ (.slice a5 R.1.length c5)).cell? ⟨b3, 0, none⟩ = some (.slice ca fs0.length cc) ∧ ((wn3.setCell ⟨bk0, 0, none⟩ (.slice a5 R.1.length c5)).cell? ⟨w.heap.size + 1, 0, none⟩ = some (.int .i64 T1.step) ∧ (wn3.setCell ⟨bk0, 0, none⟩ (.slice a5 R.1.length c5)).cell? ⟨w.heap.size + 1, 1, none⟩ = some (.int .i64 T1.phase) ∧ (wn3.setCell ⟨bk0, 0, none⟩ (.slice a5 R.1.length c5)).cell? ⟨w.heap.size + 1, 2, none⟩ = some (.bool T1.fresh) ∧ (wn3.setCell ⟨bk0, 0, none⟩ (.slice a5 R.1.length c5)).cell? ⟨w.heap.size + 1, 3, none⟩ = some (.slice va T1.vals.length vc) ∧ (wn3.setCell ⟨bk0, 0, none⟩ (.slice a5 R.1.length c5)).cell? ⟨w.heap.size + 1, 4, none⟩ = some (.slice ma T1.mail.length mc))) := KEEP.out _ FB.out
      have FX : Hid (BX 40 (wn3.setCell ⟨bk0, 0, none⟩ (.slice a5 R.1.length c5)) bk0 #[.slice a5 R.1.length c5]) := NZ.out.set 0 _
      have FD : Hid (DiskR (wn3.setCell ⟨bk0, 0, none⟩ (.slice a5 R.1.length c5)) (.slice a5 R.1.length c5) R.1) := OD.out.setBox NZ.out
      refine oneH (i := 8) rfl (by kernel_rfl) rfl (op_skip (w' := (wn3.setCell ⟨bk0, 0, none⟩ (.slice a5 R.1.length c5))) rfl (by go_simp) ⟨HSF.out, ?_⟩)
      refine takeH (i := 9) (v := .int .i64 R.2) (d := 7) rfl rfl (by kernel_rfl) (by kernel_rfl) (by kernel_rfl) (fun _ _ _ h => h) (by rfl) (fun V hV => by obtain ⟨v1, u1, u2, u3, u4, u5⟩ := hV; go_simp) HSF.out ?_
      simp only [Act.put, List.setIfInBounds_toArray, List.set_cons_zero, List.set_cons_succ]
      refine wpAnyH_done (by kernel_rfl) ?_ _
      exact HG.out x1 k1 x2 k2 a5 c5 _ _ FX FD FB LB
  case g =>
    intro x1 k1 x2 k2 a5 c5 bk w5 FX FD FB LB
    clear HS0 KEEP KV
    have A5 : Hid (Below W0.heap.size W0 w5) := A3.out.trans (FB.out.mono hs3)
    have X5 : Hid (BX 40 w5 b3 #[.slice ca fs0.length cc]) := X3.out.below FB.out hl3
    have D5 : Hid (DiskR w5 (.slice ca fs0.length cc) fs0) := D3.out.below FB.out (Nat.le_refl _)
    obtain ⟨Q5, S5, _, e5, f5, g5⟩ := HK.out _ A5.out
    obtain ⟨q0, _⟩ := Q5.all1
    obtain ⟨c0, c1, c2, c3, c4⟩ := S5.all5
    have CF : Hid (∀ X, X = w5 → _) := fun X (hX : X = w5) => HF.out w5 e5 f5 g5
    clear Q5 S5 e5 f5 g5
    go_wp2_with fail
    refine (CF.out _ rfl).mono ?_
    rintro e w6 ⟨v7, rfl, hr7, hb6⟩
    obtain ⟨a7, c7, e7, _, _, _, _⟩ := id hr7
    subst e7
    have a6b : Below W0.heap.size W0 w6 := A5.out.trans (hb6.mono A5.out.size)
    have ba : ∀ o, Below w6.heap.size w6 (w6.alloc o) := fun o => below_alloc _ _
    have hs6 := hb6.size
    have W7 : Hid (Below W0.heap.size W0 (w6.alloc (.cells #[.slice a7 R.1.length c7] 40)) ∧ BX 40 (w6.alloc (.cells #[.slice a7 R.1.length c7] 40)) w6.heap.size #[.slice a7 R.1.length c7] ∧ BX 40 (w6.alloc (.cells #[.slice a7 R.1.length c7] 40)) bk #[.slice a5 R.1.length c5] ∧ BX 40 (w6.alloc (.cells #[.slice a7 R.1.length c7] 40)) b3 #[.slice ca fs0.length cc] ∧ DiskR (w6.alloc (.cells #[.slice a7 R.1.length c7] 40)) (.slice a5 R.1.length c5) R.1 ∧ DiskR (w6.alloc (.cells #[.slice a7 R.1.length c7] 40)) (.slice a7 R.1.length c7) R.1 ∧ DiskR (w6.alloc (.cells #[.slice a7 R.1.length c7] 40)) (.slice ca fs0.length cc) fs0) := ⟨a6b.alloc a6b.size _, BX.new _ _ _, (FX.out.below hb6 FX.out.lt).below (ba _) (by have := FX.out.lt; omega), (X5.out.below hb6 X5.out.lt).below (ba _) (by have := X5.out.lt; omega), (FD.out.below hb6 (Nat.le_refl _)).below (ba _) (Nat.le_refl _), hr7.below (ba _) (Nat.le_refl _), (D5.out.below hb6 (Nat.le_refl _)).below (ba _) (Nat.le_refl _)⟩
    clear q0 c0 c1 c2 c3 c4 hr7 hb6 a6b ba hs6
    go_upto_region 4 with fail
    generalize w6.alloc (.cells #[.slice a7 R.1.length c7] 40) = w7 at *
    generalize w6.heap.size = b7 at *
    obtain ⟨A7, Y7, X7, Z7, N7, P7, V7⟩ := W7.out
    have A7H : Hid (Below W0.heap.size W0 w7) := A7
    have Z7H : Hid (BX 40 w7 b3 #[.slice ca fs0.length cc]) := Z7
    have V7H : Hid (DiskR w7 (.slice ca fs0.length cc) fs0) := V7
    have CI : Hid (∀ X, X = w7 → _) := fun X (_ : X = w7) => sameDisk_yes _ _ R.1 w7 N7 P7 HGR.out
    obtain ⟨x0, _⟩ := X7.all1
    obtain ⟨y0, _⟩ := Y7.all1
    clear A7 Y7 X7 Z7 N7 P7 V7 W7 CF
    go_wp2_with fail
    refine (CI.out _ rfl).mono ?_
    rintro e w8 ⟨rfl, hb8⟩
    have A8 : Hid (Below W0.heap.size W0 w8) := A7H.out.trans (hb8.mono A7H.out.size)
    have x8 := Z7H.out.below hb8 Z7H.out.lt
    obtain ⟨S8, _, b8, f8, _, _⟩ := HK.out _ A8.out
    have CS : Hid (∀ X, X = w8 → _) := fun X (_ : X = w8) => sameDisk_yes _ _ fs0 w8 (V7H.out.below hb8 (Nat.le_refl _)) f8 HGD.out
    have B8 : Hid (Below w.heap.size w w8) := b8
    clear x0 y0
    obtain ⟨x0, _⟩ := x8.all1
    obtain ⟨y0, _⟩ := S8.all1
    clear x8 S8 b8 f8 hb8
    go_wp2_with fail
    refine (CS.out _ rfl).mono ?_
    rintro e w9 ⟨rfl, hb9⟩
    have B9 : Hid (Below w.heap.size w w9) := B8.out.trans (hb9.mono B8.out.size)
    clear x0 y0 hb9
    go_wp2_with fail
    go_ret
    exact ⟨rfl, B9.out⟩

set_option maxHeartbeats 400000 in
set_option maxRecDepth 100000 in
theorem lifted (os : Os) (started : os.Started) (H : Type) (enc : TypeId × Value → H) :
    ReturnsInHanded {} Try.checked os 5 .any (Rows.ckptPutsSpec.pre6 enc Try.prog Try.f5 Rows.ckptPutsRow.domain false) (Rows.ckptPutsSpec.post enc Try.prog Try.f5 false true false false) := by
  refine returnsInHanded_of_change_sized (C := Try.checked) own started (by kernel_rfl) Try.func5
    (ChangeSpec.witness6 (enc := enc) (C := Try.checked) false ⟨#[], #[.agg #[.slice none 0 0], .agg #[.int .i64 0, .int .i64 0, .bool false, .slice none 0 0, .slice none 0 0]], []⟩ 8 (by kernel_rfl) (by kernel_rfl) (by kernel_rfl) (by kernel_rfl)) ?_
  intro W base args ds gs before hval0 hW _ hsz0 _
  have hval : ∀ (j : Nat) t v, Try.f5.params[j]? = some t → args[j]? = some v → Value.okWide Try.prog W .any base t v := hval0
  have hW' := hW
  obtain ⟨p, q, hA0, hV, rfl, hfz, hnd⟩ := hW
  have hA : DataW.TrodAll enc Try.prog W 0 (fun _ => true) true Try.f5.params.toList args.toList ds p := hA0
  have hsz : (DataW.weightsEach Try.prog (Try.f5.params.toList ++ Rows.ckptPutsSpec.plain.varTypes Try.prog) (ds ++ gs)).all (fun x => decide (x ≤ reachBytes)) = true := hsz0
  rw [Try.params5] at hA hval hsz
  obtain ⟨v0, vs0, d0, ds0, p0, q0, hargs, rfl, rfl, h0, r0⟩ := trodAll_cons hA
  obtain ⟨v1, vs1, d1, ds1, p1, q1, rfl, rfl, rfl, h1, r1⟩ := trodAll_cons r0
  obtain ⟨rfl, rfl, rfl⟩ := trodAll_nil r1
  obtain rfl : args = #[v0, v1] := by cases args; simp_all
  obtain ⟨rfl, rfl⟩ := trodVars_none hV
  have k0 := h0
  have lt0 : ∀ x ∈ p0, x.block < W.heap.size := by obtain ⟨m, hm⟩ := k0; exact DataW.trod_lt m _ _ _ hm
  have hw0 : ∀ m ∈ d0.weights Try.prog 40, m ≤ reachBytes := fun m hm => by simpa using List.all_eq_true.1 hsz _ (DataW.weights_mem_each (j := 0) (t := 40) rfl rfl m hm)
  have k1 := h1
  have lt1 : ∀ x ∈ p1, x.block < W.heap.size := by obtain ⟨m, hm⟩ := k1; exact DataW.trod_lt m _ _ _ hm
  have hw1 : ∀ m ∈ d1.weights Try.prog 25, m ≤ reachBytes := fun m hm => by simpa using List.all_eq_true.1 hsz _ (DataW.weights_mem_each (j := 1) (t := 25) rfl rfl m hm)
  obtain ⟨w0, fs0, rfl, hD0, hG0, hL0⟩ := open_disk (okWide_struct Try.underlying40 (hval 0 40 v0 rfl rfl)) h0 hw0
  obtain ⟨T1, vv1, vm1, rfl, hN1, hV1, hM1, hB1⟩ := open_saved (okWide_struct Try.underlying25 (hval 1 25 v1 rfl rfl)) h1 hw1
  clear hA0 hval0
  refine (walk w0 fs0 T1 vv1 vm1 W hD0 hG0 hL0 hN1 hV1 hM1 hB1).mono fun e W' ⟨he, bel⟩ => ?_
  subst he
  exact ⟨_, rfl, _, _, _, [], _, [], hW', trodAll_mk1 (shut_bool Try.underlying4 _), (trodAll_cons_mk (Below.trod laidOut (by kernel_rfl) (of_decide_eq_true (by kernel_rfl)) k0 bel lt0) (trodAll_cons_mk (Below.trod laidOut (by kernel_rfl) (of_decide_eq_true (by kernel_rfl)) k1 bel lt1) trodAll_mk0)), rfl, bel.frame _, fun h => by cases h⟩

theorem over : Rows.ckptPutsRow.holds Try.pinned (OpenSpec.ofChange Rows.ckptPutsSpec) :=
  OpenClaim.holds_of_wide 5 Try.f5 rfl rfl rfl rfl rfl rfl rfl ⟨rfl, rfl, rfl, rfl, rfl⟩ rfl rfl rfl rfl rfl (by kernel_rfl) Try.func5 (by kernel_rfl)
    (of_decide_eq_true (by kernel_rfl)) (by unfold Func.isWrapper; first | (rw [if_pos (by decide +kernel)]; kernel_rfl) | (rw [if_neg (by decide +kernel)]; exact ⟨rfl, rfl⟩))
    (fun os started H enc _ => lifted os started H enc)

/-- The statement. -/
theorem proved : Rows.CkptPutsSaid := over
#print axioms proved
end Go.Proofs.Ytbfkmakfkbdafaa.ckptPuts
