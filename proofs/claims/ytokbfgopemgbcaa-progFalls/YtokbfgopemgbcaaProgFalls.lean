/-
  For every kind, vertex, value and mail a value of Dist or Weak falls or stays, and the vertex speaks just when it changed (the law ProgFalls returns true, and its arguments read as before); no condition.
-/
import Derived.Test.YtokbfgopemgbcaaKeepFalls
import Derived.Test.YtokbfgopemgbcaaRegionCall
import Derived.Test.YtokbfgopemgbcaaIntsOpen
import Derived.WalkKit
import Derived.ProofKit
import Derived.OpenShut
import Derived.ShutString
import Derived.SizedLaws
import Derived.ChangeOld
import Derived.Below
namespace Go.Proofs.Ytokbfgopemgbcaa.progFalls
set_option maxRecDepth 100000
open Go.ChangeShapes Go.WideShapes Go.ChangeAt Go.RowKit

theorem own : ownKnob Try.prog.godebug = none := by kernel_rfl
theorem laidOut : laidOutB Try.prog = true := by kernel_rfl

set_option maxHeartbeats 4000000 in
set_option maxRecDepth 100000 in
theorem walk (n0 : Int) (n1 : Int) (n2 : Int) (v3 : Value) (ns3 : List Int) (w : World) (hI0 : -9223372036854775808 ≤ n0 ∧ n0 ≤ 9223372036854775807) (hI1 : -9223372036854775808 ≤ n1 ∧ n1 ≤ 9223372036854775807) (hI2 : -9223372036854775808 ≤ n2 ∧ n2 ≤ 9223372036854775807) (hR3 : InR w v3 ns3) (hB3 : ∀ x ∈ ns3, i64B x) (hL3 : ns3.length * 8 ≤ 140737488351232) :
    Calls Try.prog 6 #[.int .i64 n0, .int .i64 n1, .int .i64 n2, v3] w fun e w' => e = .returned (.bool true) ∧ Below w.heap.size w w' := by
  have _u := hI0
  clear _u
  have _u := hI1
  clear _u
  have _u := hI2
  clear _u
  have _u := hR3
  clear _u
  have _u := hB3
  clear _u
  have _u := hL3
  clear _u
  have HR : Hid (InR w v3 ns3) := hR3
  have HBD : Hid (∀ x ∈ ns3, i64B x) := hB3
  obtain ⟨va, vc, rfl, hca, hma, _, _⟩ := hR3
  unfold maxLen at hma
  obtain ⟨k0, k1⟩ := hI0
  obtain ⟨v0, v1⟩ := hI1
  obtain ⟨o0, o1⟩ := hI2
  have CK : Hid (∀ X, Calls Try.prog 17 #[.int .i64 n0, .int .i64 2] X fun e w' => e = .returned (.int .i64 (pickF n0 2)) ∧ w' = X) := fun X => picked_any n0 2 X k0 k1 (by decide) (by decide)
  have CO : Hid (∀ X, Calls Try.prog 17 #[.int .i64 n2, .int .i64 21] X fun e w' => e = .returned (.int .i64 (pickF n2 21)) ∧ w' = X) := fun X => picked_any n2 21 X o0 o1 (by decide) (by decide)
  have CP : Hid (∀ X, Calls Try.prog 17 #[.int .i64 n1, .int .i64 20] X fun e w' => ∃ v, e = .returned v ∧ (v = .int .i64 (pickF n1 20) ∧ w' = X)) := fun X => (picked_any n1 20 X v0 v1 (by decide) (by decide)).mono (fun e w' h => ⟨_, h.1, rfl, h.2⟩)
  have CV : Hid (∀ X, InR X (.slice va ns3.length vc) ns3 → Calls Try.prog 18 #[.slice va ns3.length vc] X fun e w' => ∃ v, e = .returned v ∧ (InR w' v (valL ns3) ∧ Below X.heap.size X w')) := fun X hX => (values_any _ ns3 X hX HBD.out).mono (fun e w' ⟨v, h1, h2, h3⟩ => ⟨v, h1, RowK.own encI_len h2, h3⟩)
  have bk := pickF_bd n0 2 (by decide)
  have bo := pickF_bd n2 21 (by decide)
  have bv := pickF_bd n1 20 (by decide)
  have HML : Hid (∀ y ∈ valL ns3, 0 ≤ y ∧ y < 20) := valL_bd
  have HNIL : Hid (valL ns3 = [] → ns3 = []) := valL_nil
  generalize pickF n0 2 = pk at *
  generalize pickF n2 21 = po at *
  generalize pickF n1 20 = pv at *
  obtain ⟨kk, hkk⟩ : ∃ kk, 1 + pk = kk := ⟨_, rfl⟩
  obtain ⟨a, haa⟩ : ∃ a, po - 1 = a := ⟨_, rfl⟩
  have wk : IntKind.i64.wrap (1 + pk) = kk := by rw [hkk]; exact wrap_id64 (by omega) (by omega)
  have wa : IntKind.i64.wrap (po - 1) = a := by rw [haa]; exact wrap_id64 (by omega) (by omega)
  have CW0 := fun X v (hX : InR X v (valL ns3)) => wake_any kk pv 0 (a, -1) 0 false (valL ns3) v X hX
  rw [wake_low (k := kk) (v := pv) (a := a) (by omega) bv (by omega) HML.out] at CW0
  have HF := low_falls (a := a) (m := valL ns3) (by omega) (fun y hy => (HML.out y hy).1)
  obtain ⟨ya0, hya⟩ : ∃ y, (lowF a (valL ns3)).1 = y := ⟨_, rfl⟩
  obtain ⟨sb, hsb⟩ : ∃ y, (lowF a (valL ns3)).2 = y := ⟨_, rfl⟩
  rw [hya, hsb] at HF
  rw [hya, hsb] at CW0
  unfold WakP at CW0
  have CW : Hid (∀ X v, InR X v (valL ns3) → Calls Try.prog 10 #[.int .i64 kk, .int .i64 pv, .int .i64 0, .agg #[.int .i64 a, .int .i64 (-1)], .int .i64 0, .bool false, v] X fun e w' => ∃ v, e = .returned v ∧ (v = .tuple #[.agg #[.int .i64 ya0, .int .i64 (-1)], .bool sb, .int .i64 0] ∧ Below X.heap.size X w')) := fun X v hX => (CW0 X v hX).mono (fun e w' h => ⟨_, h.1, rfl, h.2⟩)
  have hab : -1 ≤ a ∧ a < 20 := by omega
  have HFF : Hid ((sb = true ∧ 0 ≤ ya0 ∧ (a = -1 ∨ ya0 < a)) ∨ (sb = false ∧ ya0 = a ∧ (0 ≤ a ∨ valL ns3 = []))) := HF
  clear CW0 HF hya hsb hkk haa bk bo bv k0 k1 v0 v1 o0 o1 hB3 hL3
  have epk : ∀ args w, (callFunc 17 args).run Try.prog w = .ok (.enter 17 args) w := enters_of Try.func17 (by kernel_rfl) rfl
  have evl : ∀ args w, (callFunc 18 args).run Try.prog w = .ok (.enter 18 args) w := enters_of Try.func18 (by kernel_rfl) rfl
  have ewk : ∀ args w, (callFunc 10 args).run Try.prog w = .ok (.enter 10 args) w := enters_of Try.func10 (by kernel_rfl) rfl
  go_enter Try.func6, Try.ntmps6
  go_wp2_with fail
  refine (CK.out _).mono ?_
  rintro e w1 ⟨rfl, hw⟩
  replace hw := hw.symm
  subst hw
  go_wp2_with fail
  refine (CO.out _).mono ?_
  rintro e w1 ⟨rfl, hw⟩
  subst hw
  go_upto_region 3 with fail
  have N1 : Hid (BX 23 (w1.alloc (.cells #[.int .i64 a, .int .i64 (-1)] 23)) w1.heap.size #[.int .i64 a, .int .i64 (-1)]) := BX.new _ _ _
  have A1 : Hid (Below w1.heap.size w1 (w1.alloc (.cells #[.int .i64 a, .int .i64 (-1)] 23))) := below_alloc _ _
  have s1 : w1.heap.size + 1 ≤ (w1.alloc (.cells #[.int .i64 a, .int .i64 (-1)] 23)).heap.size := by simp
  generalize w1.alloc (.cells #[.int .i64 a, .int .i64 (-1)] 23) = wr at *
  have KEEP : Hid (∀ V, Below wr.heap.size wr V → V.cell? ⟨w1.heap.size, 0, none⟩ = some (.int .i64 a) ∧ V.cell? ⟨w1.heap.size, 1, none⟩ = some (.int .i64 (-1))) := fun V hV => by
    obtain ⟨c0, c1, _⟩ := (N1.out.below hV N1.out.lt).all2
    exact ⟨c0, c1⟩
  have KR : Hid (∀ V, Below wr.heap.size wr V → InR V (.slice va ns3.length vc) ns3) := fun V hV => HR.out.below (A1.out.trans (hV.mono A1.out.size)) (Nat.le_refl _)
  clear CK CO
  apply Hid.cut
  case h =>
    intro HG
    have B0 : Below wr.heap.size wr wr.drew := (Below.refl _ _).drew
    have HS0 : Hid (wr.drew.cell? ⟨w1.heap.size, 0, none⟩ = some (.int .i64 a) ∧ wr.drew.cell? ⟨w1.heap.size, 1, none⟩ = some (.int .i64 (-1))) := KEEP.out wr.drew B0
    refine wp_region_held (S := fun V => V.cell? ⟨w1.heap.size, 0, none⟩ = some (.int .i64 a) ∧ V.cell? ⟨w1.heap.size, 1, none⟩ = some (.int .i64 (-1))) (by kernel_rfl) ?_
    simp only [List.size_toArray, List.length_cons, List.length_nil, Nat.reduceAdd]
    refine takeH (i := 0) (v := .int .i64 kk) (d := 22) rfl rfl (by kernel_rfl) (by kernel_rfl) (by kernel_rfl) (fun _ _ _ h => h) (by rfl) (fun V hV => by obtain ⟨v1, v2⟩ := hV; go_simp) HS0.out ?_
    simp only [Act.put, List.setIfInBounds_toArray, List.set_cons_zero, List.set_cons_succ]
    refine takeH (i := 1) (v := .int .i64 n1) (d := 23) rfl rfl (by kernel_rfl) (by kernel_rfl) (by kernel_rfl) (fun _ _ _ h => h) (by rfl) (fun V hV => by obtain ⟨v1, v2⟩ := hV; go_simp) HS0.out ?_
    simp only [Act.put, List.setIfInBounds_toArray, List.set_cons_zero, List.set_cons_succ]
    refine takeH (i := 3) (v := .agg #[.int .i64 a, .int .i64 (-1)]) (d := 25) rfl rfl (by kernel_rfl) (by kernel_rfl) (by kernel_rfl) (fun _ _ _ h => h) (by rfl) (fun V hV => by obtain ⟨v1, v2⟩ := hV; go_simp) HS0.out ?_
    simp only [Act.put, List.setIfInBounds_toArray, List.set_cons_zero, List.set_cons_succ]
    refine takeH (i := 4) (v := .slice va ns3.length vc) (d := 26) rfl rfl (by kernel_rfl) (by kernel_rfl) (by kernel_rfl) (fun _ _ _ h => h) (by rfl) (fun V hV => by obtain ⟨v1, v2⟩ := hV; go_simp) HS0.out ?_
    simp only [Act.put, List.setIfInBounds_toArray, List.set_cons_zero, List.set_cons_succ]
    refine twoH (i := 2) (j := 11) rfl rfl (by kernel_rfl) rfl rfl ?way1a ?way1b
    case way1a =>
      refine call_gets (d := 24) (f := 17) (xs := #[.tmp 23, .const (.int .i64 20)]) (ats := #[3, 3]) rfl rfl epk (vs := #[.int .i64 n1, .int .i64 20]) (by simp [Act.eval]) (CP.out _) ?_
      rintro vr wc1 ⟨rfl, rfl⟩
      refine ⟨HS0.out, ?_⟩
      simp only [Act.put, List.setIfInBounds_toArray, List.set_cons_zero, List.set_cons_succ]
      refine twoH (i := 5) (j := 11) rfl rfl (by kernel_rfl) rfl rfl ?way2a ?way2b
      case way2a =>
        refine call_gets (d := 27) (f := 18) (xs := #[.tmp 26]) (ats := #[24]) rfl rfl evl (vs := #[.slice va ns3.length vc]) (by simp [Act.eval]) (CV.out _ (KR.out _ B0)) ?_
        rintro vr wc2 ⟨hrv, hb⟩
        obtain ⟨ya, yc, rfl⟩ := hrv.shape
        have bc2 : Below wr.heap.size wr wc2 := B0.trans (hb.mono B0.size)
        have RV : Hid (InR wc2 (.slice ya (valL ns3).length yc) (valL ns3)) := hrv
        have HS2 : Hid (wc2.cell? ⟨w1.heap.size, 0, none⟩ = some (.int .i64 a) ∧ wc2.cell? ⟨w1.heap.size, 1, none⟩ = some (.int .i64 (-1))) := KEEP.out wc2 bc2
        clear hb hrv
        refine ⟨HS2.out, ?_⟩
        simp only [Act.put, List.setIfInBounds_toArray, List.set_cons_zero, List.set_cons_succ]
        refine twoH (i := 6) (j := 11) rfl rfl (by kernel_rfl) rfl rfl ?way3a ?way3b
        case way3a =>
          refine call_gets (d := 28) (f := 10) (xs := #[.tmp 22, .tmp 24, .const (.int .i64 0), .tmp 25, .const (.int .i64 0), .const (.bool false), .tmp 27]) (ats := #[3, 3, 3, 23, 3, 4, 24]) rfl rfl ewk (vs := #[.int .i64 kk, .int .i64 pv, .int .i64 0, .agg #[.int .i64 a, .int .i64 (-1)], .int .i64 0, .bool false, .slice ya (valL ns3).length yc]) (by simp [Act.eval]) (CW.out _ _ RV.out) ?_
          rintro vr wc3 ⟨rfl, hb⟩
          have bc3 : Below wr.heap.size wr wc3 := bc2.trans (hb.mono bc2.size)
          have HS3 : Hid (wc3.cell? ⟨w1.heap.size, 0, none⟩ = some (.int .i64 a) ∧ wc3.cell? ⟨w1.heap.size, 1, none⟩ = some (.int .i64 (-1))) := KEEP.out wc3 bc3
          clear hb
          refine ⟨HS3.out, ?_⟩
          simp only [Act.put, List.setIfInBounds_toArray, List.set_cons_zero, List.set_cons_succ]
          refine takeH (i := 7) (v := .tuple #[.agg #[.int .i64 ya0, .int .i64 (-1)], .bool sb, .int .i64 0]) (d := 21) rfl rfl (by kernel_rfl) (by kernel_rfl) (by kernel_rfl) (fun _ _ _ h => h) (by rfl) (fun V hV => by obtain ⟨v1, v2⟩ := hV; go_simp) HS3.out ?_
          simp only [Act.put, List.setIfInBounds_toArray, List.set_cons_zero, List.set_cons_succ]
          refine takeH (i := 8) (v := .agg #[.int .i64 ya0, .int .i64 (-1)]) (d := 29) rfl rfl (by kernel_rfl) (by kernel_rfl) (by kernel_rfl) (fun _ _ _ h => h) (by rfl) (fun V hV => by obtain ⟨v1, v2⟩ := hV; go_simp) HS3.out ?_
          simp only [Act.put, List.setIfInBounds_toArray, List.set_cons_zero, List.set_cons_succ]
          refine takeH (i := 9) (v := .bool sb) (d := 30) rfl rfl (by kernel_rfl) (by kernel_rfl) (by kernel_rfl) (fun _ _ _ h => h) (by rfl) (fun V hV => by obtain ⟨v1, v2⟩ := hV; go_simp) HS3.out ?_
          simp only [Act.put, List.setIfInBounds_toArray, List.set_cons_zero, List.set_cons_succ]
          refine takeH (i := 10) (v := .int .i64 0) (d := 31) rfl rfl (by kernel_rfl) (by kernel_rfl) (by kernel_rfl) (fun _ _ _ h => h) (by rfl) (fun V hV => by obtain ⟨v1, v2⟩ := hV; go_simp) HS3.out ?_
          simp only [Act.put, List.setIfInBounds_toArray, List.set_cons_zero, List.set_cons_succ]
          refine oneH (i := 11) rfl (by kernel_rfl) rfl (op_run (d := 11) (v' := .pointer (some ⟨wc3.heap.size, 0, none⟩)) (w' := wc3.alloc (.cells #[.int .i64 0, .int .i64 0] 23)) rfl (by go_simp) ⟨KEEP.out _ (bc3.alloc bc3.size _), ?_⟩)
          simp only [Act.put, List.setIfInBounds_toArray, List.set_cons_zero, List.set_cons_succ]
          have XN : Hid (BX 23 (wc3.alloc (.cells #[.int .i64 0, .int .i64 0] 23)) (wc3.heap.size) #[.int .i64 0, .int .i64 0]) := BX.new _ _ _
          have LN : Hid (wr.heap.size ≤ wc3.heap.size) := bc3.size
          have bc4 : Below wr.heap.size wr (wc3.alloc (.cells #[.int .i64 0, .int .i64 0] 23)) := bc3.alloc bc3.size _
          have HS4 : Hid ((wc3.alloc (.cells #[.int .i64 0, .int .i64 0] 23)).cell? ⟨w1.heap.size, 0, none⟩ = some (.int .i64 a) ∧ (wc3.alloc (.cells #[.int .i64 0, .int .i64 0] 23)).cell? ⟨w1.heap.size, 1, none⟩ = some (.int .i64 (-1))) := KEEP.out _ bc4
          generalize wc3.alloc (.cells #[.int .i64 0, .int .i64 0] 23) = wc4 at *
          obtain ⟨n0, n1x, n2, n3⟩ := XN.out.all2
          have bd : Below wr.heap.size wr (put2 wc4 (wc3.heap.size) (.int .i64 ya0) (.int .i64 (-1))) := below_put2 bc4 LN.out _ _
          have HT : Hid ((put2 wc4 (wc3.heap.size) (.int .i64 ya0) (.int .i64 (-1))).cell? ⟨w1.heap.size, 0, none⟩ = some (.int .i64 a) ∧ (put2 wc4 (wc3.heap.size) (.int .i64 ya0) (.int .i64 (-1))).cell? ⟨w1.heap.size, 1, none⟩ = some (.int .i64 (-1))) := KEEP.out _ bd
          have YN : Hid (BX 23 (put2 wc4 (wc3.heap.size) (.int .i64 ya0) (.int .i64 (-1))) (wc3.heap.size) #[.int .i64 ya0, .int .i64 (-1)]) := XN.out.put2 _ _
          refine oneH (i := 12) rfl (by kernel_rfl) rfl (op_skip (w' := put2 wc4 (wc3.heap.size) (.int .i64 ya0) (.int .i64 (-1))) rfl (by unfold put2; go_simp) ⟨HT.out, ?_⟩)
          clear n0 n1x n2 n3 XN
          generalize put2 wc4 (wc3.heap.size) (.int .i64 ya0) (.int .i64 (-1)) = wp5 at *
          refine takeH (i := 13) (v := .bool sb) (d := 12) rfl rfl (by kernel_rfl) (by kernel_rfl) (by kernel_rfl) (fun _ _ _ h => h) (by rfl) (fun V hV => by obtain ⟨v1, v2⟩ := hV; go_simp) HT.out ?_
          simp only [Act.put, List.setIfInBounds_toArray, List.set_cons_zero, List.set_cons_succ]
          refine takeH (i := 14) (v := .int .i64 0) (d := 13) rfl rfl (by kernel_rfl) (by kernel_rfl) (by kernel_rfl) (fun _ _ _ h => h) (by rfl) (fun V hV => by obtain ⟨v1, v2⟩ := hV; go_simp) HT.out ?_
          simp only [Act.put, List.setIfInBounds_toArray, List.set_cons_zero, List.set_cons_succ]
          refine wpAnyH_done (by kernel_rfl) ?_ _
          have FB : Hid (Below wr.heap.size wr wp5) := bd
          generalize wc3.heap.size = pb at YN LN ⊢
          clear bd HT
          revert FB
          revert YN
          revert LN
          revert wp5
          revert pb
          clear RV
          revert yc
          revert ya
          exact HG.out
        case way3b =>
          refine op_run (d := 11) (v' := .pointer (some ⟨wc2.heap.size, 0, none⟩)) (w' := wc2.alloc (.cells #[.int .i64 0, .int .i64 0] 23)) rfl (by go_simp) ⟨KEEP.out _ (bc2.alloc bc2.size _), ?_⟩
          simp only [Act.put, List.setIfInBounds_toArray, List.set_cons_zero, List.set_cons_succ]
          have XN : Hid (BX 23 (wc2.alloc (.cells #[.int .i64 0, .int .i64 0] 23)) (wc2.heap.size) #[.int .i64 0, .int .i64 0]) := BX.new _ _ _
          have LN : Hid (wr.heap.size ≤ wc2.heap.size) := bc2.size
          have bc3 : Below wr.heap.size wr (wc2.alloc (.cells #[.int .i64 0, .int .i64 0] 23)) := bc2.alloc bc2.size _
          have HS3 : Hid ((wc2.alloc (.cells #[.int .i64 0, .int .i64 0] 23)).cell? ⟨w1.heap.size, 0, none⟩ = some (.int .i64 a) ∧ (wc2.alloc (.cells #[.int .i64 0, .int .i64 0] 23)).cell? ⟨w1.heap.size, 1, none⟩ = some (.int .i64 (-1))) := KEEP.out _ bc3
          replace RV : Hid (InR (wc2.alloc (.cells #[.int .i64 0, .int .i64 0] 23)) (.slice ya (valL ns3).length yc) (valL ns3)) := RV.out.below (below_alloc _ _) (Nat.le_refl _)
          generalize wc2.alloc (.cells #[.int .i64 0, .int .i64 0] 23) = wc3 at *
          refine oneH (i := 6) rfl (by kernel_rfl) rfl (call_gets (d := 28) (f := 10) (xs := #[.tmp 22, .tmp 24, .const (.int .i64 0), .tmp 25, .const (.int .i64 0), .const (.bool false), .tmp 27]) (ats := #[3, 3, 3, 23, 3, 4, 24]) rfl rfl ewk (vs := #[.int .i64 kk, .int .i64 pv, .int .i64 0, .agg #[.int .i64 a, .int .i64 (-1)], .int .i64 0, .bool false, .slice ya (valL ns3).length yc]) (by simp [Act.eval]) (CW.out _ _ RV.out) ?_)
          rintro vr wc4 ⟨rfl, hb⟩
          have bc4 : Below wr.heap.size wr wc4 := bc3.trans (hb.mono bc3.size)
          have HS4 : Hid (wc4.cell? ⟨w1.heap.size, 0, none⟩ = some (.int .i64 a) ∧ wc4.cell? ⟨w1.heap.size, 1, none⟩ = some (.int .i64 (-1))) := KEEP.out wc4 bc4
          replace XN : Hid (BX 23 wc4 (wc2.heap.size) #[.int .i64 0, .int .i64 0]) := XN.out.below hb XN.out.lt
          clear hb
          refine ⟨HS4.out, ?_⟩
          simp only [Act.put, List.setIfInBounds_toArray, List.set_cons_zero, List.set_cons_succ]
          refine takeH (i := 7) (v := .tuple #[.agg #[.int .i64 ya0, .int .i64 (-1)], .bool sb, .int .i64 0]) (d := 21) rfl rfl (by kernel_rfl) (by kernel_rfl) (by kernel_rfl) (fun _ _ _ h => h) (by rfl) (fun V hV => by obtain ⟨v1, v2⟩ := hV; go_simp) HS4.out ?_
          simp only [Act.put, List.setIfInBounds_toArray, List.set_cons_zero, List.set_cons_succ]
          refine takeH (i := 8) (v := .agg #[.int .i64 ya0, .int .i64 (-1)]) (d := 29) rfl rfl (by kernel_rfl) (by kernel_rfl) (by kernel_rfl) (fun _ _ _ h => h) (by rfl) (fun V hV => by obtain ⟨v1, v2⟩ := hV; go_simp) HS4.out ?_
          simp only [Act.put, List.setIfInBounds_toArray, List.set_cons_zero, List.set_cons_succ]
          refine takeH (i := 9) (v := .bool sb) (d := 30) rfl rfl (by kernel_rfl) (by kernel_rfl) (by kernel_rfl) (fun _ _ _ h => h) (by rfl) (fun V hV => by obtain ⟨v1, v2⟩ := hV; go_simp) HS4.out ?_
          simp only [Act.put, List.setIfInBounds_toArray, List.set_cons_zero, List.set_cons_succ]
          refine takeH (i := 10) (v := .int .i64 0) (d := 31) rfl rfl (by kernel_rfl) (by kernel_rfl) (by kernel_rfl) (fun _ _ _ h => h) (by rfl) (fun V hV => by obtain ⟨v1, v2⟩ := hV; go_simp) HS4.out ?_
          simp only [Act.put, List.setIfInBounds_toArray, List.set_cons_zero, List.set_cons_succ]
          obtain ⟨n0, n1x, n2, n3⟩ := XN.out.all2
          have bd : Below wr.heap.size wr (put2 wc4 (wc2.heap.size) (.int .i64 ya0) (.int .i64 (-1))) := below_put2 bc4 LN.out _ _
          have HT : Hid ((put2 wc4 (wc2.heap.size) (.int .i64 ya0) (.int .i64 (-1))).cell? ⟨w1.heap.size, 0, none⟩ = some (.int .i64 a) ∧ (put2 wc4 (wc2.heap.size) (.int .i64 ya0) (.int .i64 (-1))).cell? ⟨w1.heap.size, 1, none⟩ = some (.int .i64 (-1))) := KEEP.out _ bd
          have YN : Hid (BX 23 (put2 wc4 (wc2.heap.size) (.int .i64 ya0) (.int .i64 (-1))) (wc2.heap.size) #[.int .i64 ya0, .int .i64 (-1)]) := XN.out.put2 _ _
          refine oneH (i := 12) rfl (by kernel_rfl) rfl (op_skip (w' := put2 wc4 (wc2.heap.size) (.int .i64 ya0) (.int .i64 (-1))) rfl (by unfold put2; go_simp) ⟨HT.out, ?_⟩)
          clear n0 n1x n2 n3 XN
          generalize put2 wc4 (wc2.heap.size) (.int .i64 ya0) (.int .i64 (-1)) = wp5 at *
          refine takeH (i := 13) (v := .bool sb) (d := 12) rfl rfl (by kernel_rfl) (by kernel_rfl) (by kernel_rfl) (fun _ _ _ h => h) (by rfl) (fun V hV => by obtain ⟨v1, v2⟩ := hV; go_simp) HT.out ?_
          simp only [Act.put, List.setIfInBounds_toArray, List.set_cons_zero, List.set_cons_succ]
          refine takeH (i := 14) (v := .int .i64 0) (d := 13) rfl rfl (by kernel_rfl) (by kernel_rfl) (by kernel_rfl) (fun _ _ _ h => h) (by rfl) (fun V hV => by obtain ⟨v1, v2⟩ := hV; go_simp) HT.out ?_
          simp only [Act.put, List.setIfInBounds_toArray, List.set_cons_zero, List.set_cons_succ]
          refine wpAnyH_done (by kernel_rfl) ?_ _
          have FB : Hid (Below wr.heap.size wr wp5) := bd
          exact HG.out ya yc (wc2.heap.size) wp5 LN YN FB
      case way2b =>
        refine op_run (d := 11) (v' := .pointer (some ⟨wr.heap.size, 0, none⟩)) (w' := wr.drew.alloc (.cells #[.int .i64 0, .int .i64 0] 23)) rfl (by go_simp) ⟨KEEP.out _ (B0.alloc B0.size _), ?_⟩
        simp only [Act.put, List.setIfInBounds_toArray, List.set_cons_zero, List.set_cons_succ]
        have XN : Hid (BX 23 (wr.drew.alloc (.cells #[.int .i64 0, .int .i64 0] 23)) (wr.heap.size) #[.int .i64 0, .int .i64 0]) := BX.new _ _ _
        have LN : Hid (wr.heap.size ≤ wr.heap.size) := Nat.le_refl _
        have bc2 : Below wr.heap.size wr (wr.drew.alloc (.cells #[.int .i64 0, .int .i64 0] 23)) := B0.alloc B0.size _
        have HS2 : Hid ((wr.drew.alloc (.cells #[.int .i64 0, .int .i64 0] 23)).cell? ⟨w1.heap.size, 0, none⟩ = some (.int .i64 a) ∧ (wr.drew.alloc (.cells #[.int .i64 0, .int .i64 0] 23)).cell? ⟨w1.heap.size, 1, none⟩ = some (.int .i64 (-1))) := KEEP.out _ bc2
        generalize wr.drew.alloc (.cells #[.int .i64 0, .int .i64 0] 23) = wc2 at *
        refine oneH (i := 5) rfl (by kernel_rfl) rfl (call_gets (d := 27) (f := 18) (xs := #[.tmp 26]) (ats := #[24]) rfl rfl evl (vs := #[.slice va ns3.length vc]) (by simp [Act.eval]) (CV.out _ (KR.out _ bc2)) ?_)
        rintro vr wc3 ⟨hrv, hb⟩
        obtain ⟨ya, yc, rfl⟩ := hrv.shape
        have bc3 : Below wr.heap.size wr wc3 := bc2.trans (hb.mono bc2.size)
        have RV : Hid (InR wc3 (.slice ya (valL ns3).length yc) (valL ns3)) := hrv
        have HS3 : Hid (wc3.cell? ⟨w1.heap.size, 0, none⟩ = some (.int .i64 a) ∧ wc3.cell? ⟨w1.heap.size, 1, none⟩ = some (.int .i64 (-1))) := KEEP.out wc3 bc3
        replace XN : Hid (BX 23 wc3 (wr.heap.size) #[.int .i64 0, .int .i64 0]) := XN.out.below hb XN.out.lt
        clear hb hrv
        refine ⟨HS3.out, ?_⟩
        simp only [Act.put, List.setIfInBounds_toArray, List.set_cons_zero, List.set_cons_succ]
        refine oneH (i := 6) rfl (by kernel_rfl) rfl (call_gets (d := 28) (f := 10) (xs := #[.tmp 22, .tmp 24, .const (.int .i64 0), .tmp 25, .const (.int .i64 0), .const (.bool false), .tmp 27]) (ats := #[3, 3, 3, 23, 3, 4, 24]) rfl rfl ewk (vs := #[.int .i64 kk, .int .i64 pv, .int .i64 0, .agg #[.int .i64 a, .int .i64 (-1)], .int .i64 0, .bool false, .slice ya (valL ns3).length yc]) (by simp [Act.eval]) (CW.out _ _ RV.out) ?_)
        rintro vr wc4 ⟨rfl, hb⟩
        have bc4 : Below wr.heap.size wr wc4 := bc3.trans (hb.mono bc3.size)
        have HS4 : Hid (wc4.cell? ⟨w1.heap.size, 0, none⟩ = some (.int .i64 a) ∧ wc4.cell? ⟨w1.heap.size, 1, none⟩ = some (.int .i64 (-1))) := KEEP.out wc4 bc4
        replace XN : Hid (BX 23 wc4 (wr.heap.size) #[.int .i64 0, .int .i64 0]) := XN.out.below hb XN.out.lt
        clear hb
        refine ⟨HS4.out, ?_⟩
        simp only [Act.put, List.setIfInBounds_toArray, List.set_cons_zero, List.set_cons_succ]
        refine takeH (i := 7) (v := .tuple #[.agg #[.int .i64 ya0, .int .i64 (-1)], .bool sb, .int .i64 0]) (d := 21) rfl rfl (by kernel_rfl) (by kernel_rfl) (by kernel_rfl) (fun _ _ _ h => h) (by rfl) (fun V hV => by obtain ⟨v1, v2⟩ := hV; go_simp) HS4.out ?_
        simp only [Act.put, List.setIfInBounds_toArray, List.set_cons_zero, List.set_cons_succ]
        refine takeH (i := 8) (v := .agg #[.int .i64 ya0, .int .i64 (-1)]) (d := 29) rfl rfl (by kernel_rfl) (by kernel_rfl) (by kernel_rfl) (fun _ _ _ h => h) (by rfl) (fun V hV => by obtain ⟨v1, v2⟩ := hV; go_simp) HS4.out ?_
        simp only [Act.put, List.setIfInBounds_toArray, List.set_cons_zero, List.set_cons_succ]
        refine takeH (i := 9) (v := .bool sb) (d := 30) rfl rfl (by kernel_rfl) (by kernel_rfl) (by kernel_rfl) (fun _ _ _ h => h) (by rfl) (fun V hV => by obtain ⟨v1, v2⟩ := hV; go_simp) HS4.out ?_
        simp only [Act.put, List.setIfInBounds_toArray, List.set_cons_zero, List.set_cons_succ]
        refine takeH (i := 10) (v := .int .i64 0) (d := 31) rfl rfl (by kernel_rfl) (by kernel_rfl) (by kernel_rfl) (fun _ _ _ h => h) (by rfl) (fun V hV => by obtain ⟨v1, v2⟩ := hV; go_simp) HS4.out ?_
        simp only [Act.put, List.setIfInBounds_toArray, List.set_cons_zero, List.set_cons_succ]
        obtain ⟨n0, n1x, n2, n3⟩ := XN.out.all2
        have bd : Below wr.heap.size wr (put2 wc4 (wr.heap.size) (.int .i64 ya0) (.int .i64 (-1))) := below_put2 bc4 LN.out _ _
        have HT : Hid ((put2 wc4 (wr.heap.size) (.int .i64 ya0) (.int .i64 (-1))).cell? ⟨w1.heap.size, 0, none⟩ = some (.int .i64 a) ∧ (put2 wc4 (wr.heap.size) (.int .i64 ya0) (.int .i64 (-1))).cell? ⟨w1.heap.size, 1, none⟩ = some (.int .i64 (-1))) := KEEP.out _ bd
        have YN : Hid (BX 23 (put2 wc4 (wr.heap.size) (.int .i64 ya0) (.int .i64 (-1))) (wr.heap.size) #[.int .i64 ya0, .int .i64 (-1)]) := XN.out.put2 _ _
        refine oneH (i := 12) rfl (by kernel_rfl) rfl (op_skip (w' := put2 wc4 (wr.heap.size) (.int .i64 ya0) (.int .i64 (-1))) rfl (by unfold put2; go_simp) ⟨HT.out, ?_⟩)
        clear n0 n1x n2 n3 XN
        generalize put2 wc4 (wr.heap.size) (.int .i64 ya0) (.int .i64 (-1)) = wp5 at *
        refine takeH (i := 13) (v := .bool sb) (d := 12) rfl rfl (by kernel_rfl) (by kernel_rfl) (by kernel_rfl) (fun _ _ _ h => h) (by rfl) (fun V hV => by obtain ⟨v1, v2⟩ := hV; go_simp) HT.out ?_
        simp only [Act.put, List.setIfInBounds_toArray, List.set_cons_zero, List.set_cons_succ]
        refine takeH (i := 14) (v := .int .i64 0) (d := 13) rfl rfl (by kernel_rfl) (by kernel_rfl) (by kernel_rfl) (fun _ _ _ h => h) (by rfl) (fun V hV => by obtain ⟨v1, v2⟩ := hV; go_simp) HT.out ?_
        simp only [Act.put, List.setIfInBounds_toArray, List.set_cons_zero, List.set_cons_succ]
        refine wpAnyH_done (by kernel_rfl) ?_ _
        have FB : Hid (Below wr.heap.size wr wp5) := bd
        exact HG.out ya yc (wr.heap.size) wp5 LN YN FB
    case way1b =>
      refine op_run (d := 11) (v' := .pointer (some ⟨wr.heap.size, 0, none⟩)) (w' := wr.drew.alloc (.cells #[.int .i64 0, .int .i64 0] 23)) rfl (by go_simp) ⟨KEEP.out _ (B0.alloc B0.size _), ?_⟩
      simp only [Act.put, List.setIfInBounds_toArray, List.set_cons_zero, List.set_cons_succ]
      have XN : Hid (BX 23 (wr.drew.alloc (.cells #[.int .i64 0, .int .i64 0] 23)) (wr.heap.size) #[.int .i64 0, .int .i64 0]) := BX.new _ _ _
      have LN : Hid (wr.heap.size ≤ wr.heap.size) := Nat.le_refl _
      have bc1 : Below wr.heap.size wr (wr.drew.alloc (.cells #[.int .i64 0, .int .i64 0] 23)) := B0.alloc B0.size _
      have HS1 : Hid ((wr.drew.alloc (.cells #[.int .i64 0, .int .i64 0] 23)).cell? ⟨w1.heap.size, 0, none⟩ = some (.int .i64 a) ∧ (wr.drew.alloc (.cells #[.int .i64 0, .int .i64 0] 23)).cell? ⟨w1.heap.size, 1, none⟩ = some (.int .i64 (-1))) := KEEP.out _ bc1
      generalize wr.drew.alloc (.cells #[.int .i64 0, .int .i64 0] 23) = wc1 at *
      refine oneH (i := 2) rfl (by kernel_rfl) rfl (call_gets (d := 24) (f := 17) (xs := #[.tmp 23, .const (.int .i64 20)]) (ats := #[3, 3]) rfl rfl epk (vs := #[.int .i64 n1, .int .i64 20]) (by simp [Act.eval]) (CP.out _) ?_)
      rintro vr wc2 ⟨rfl, rfl⟩
      refine ⟨HS1.out, ?_⟩
      simp only [Act.put, List.setIfInBounds_toArray, List.set_cons_zero, List.set_cons_succ]
      refine oneH (i := 5) rfl (by kernel_rfl) rfl (call_gets (d := 27) (f := 18) (xs := #[.tmp 26]) (ats := #[24]) rfl rfl evl (vs := #[.slice va ns3.length vc]) (by simp [Act.eval]) (CV.out _ (KR.out _ bc1)) ?_)
      rintro vr wc3 ⟨hrv, hb⟩
      obtain ⟨ya, yc, rfl⟩ := hrv.shape
      have bc3 : Below wr.heap.size wr wc3 := bc1.trans (hb.mono bc1.size)
      have RV : Hid (InR wc3 (.slice ya (valL ns3).length yc) (valL ns3)) := hrv
      have HS3 : Hid (wc3.cell? ⟨w1.heap.size, 0, none⟩ = some (.int .i64 a) ∧ wc3.cell? ⟨w1.heap.size, 1, none⟩ = some (.int .i64 (-1))) := KEEP.out wc3 bc3
      replace XN : Hid (BX 23 wc3 (wr.heap.size) #[.int .i64 0, .int .i64 0]) := XN.out.below hb XN.out.lt
      clear hb hrv
      refine ⟨HS3.out, ?_⟩
      simp only [Act.put, List.setIfInBounds_toArray, List.set_cons_zero, List.set_cons_succ]
      refine oneH (i := 6) rfl (by kernel_rfl) rfl (call_gets (d := 28) (f := 10) (xs := #[.tmp 22, .tmp 24, .const (.int .i64 0), .tmp 25, .const (.int .i64 0), .const (.bool false), .tmp 27]) (ats := #[3, 3, 3, 23, 3, 4, 24]) rfl rfl ewk (vs := #[.int .i64 kk, .int .i64 pv, .int .i64 0, .agg #[.int .i64 a, .int .i64 (-1)], .int .i64 0, .bool false, .slice ya (valL ns3).length yc]) (by simp [Act.eval]) (CW.out _ _ RV.out) ?_)
      rintro vr wc4 ⟨rfl, hb⟩
      have bc4 : Below wr.heap.size wr wc4 := bc3.trans (hb.mono bc3.size)
      have HS4 : Hid (wc4.cell? ⟨w1.heap.size, 0, none⟩ = some (.int .i64 a) ∧ wc4.cell? ⟨w1.heap.size, 1, none⟩ = some (.int .i64 (-1))) := KEEP.out wc4 bc4
      replace XN : Hid (BX 23 wc4 (wr.heap.size) #[.int .i64 0, .int .i64 0]) := XN.out.below hb XN.out.lt
      clear hb
      refine ⟨HS4.out, ?_⟩
      simp only [Act.put, List.setIfInBounds_toArray, List.set_cons_zero, List.set_cons_succ]
      refine takeH (i := 7) (v := .tuple #[.agg #[.int .i64 ya0, .int .i64 (-1)], .bool sb, .int .i64 0]) (d := 21) rfl rfl (by kernel_rfl) (by kernel_rfl) (by kernel_rfl) (fun _ _ _ h => h) (by rfl) (fun V hV => by obtain ⟨v1, v2⟩ := hV; go_simp) HS4.out ?_
      simp only [Act.put, List.setIfInBounds_toArray, List.set_cons_zero, List.set_cons_succ]
      refine takeH (i := 8) (v := .agg #[.int .i64 ya0, .int .i64 (-1)]) (d := 29) rfl rfl (by kernel_rfl) (by kernel_rfl) (by kernel_rfl) (fun _ _ _ h => h) (by rfl) (fun V hV => by obtain ⟨v1, v2⟩ := hV; go_simp) HS4.out ?_
      simp only [Act.put, List.setIfInBounds_toArray, List.set_cons_zero, List.set_cons_succ]
      refine takeH (i := 9) (v := .bool sb) (d := 30) rfl rfl (by kernel_rfl) (by kernel_rfl) (by kernel_rfl) (fun _ _ _ h => h) (by rfl) (fun V hV => by obtain ⟨v1, v2⟩ := hV; go_simp) HS4.out ?_
      simp only [Act.put, List.setIfInBounds_toArray, List.set_cons_zero, List.set_cons_succ]
      refine takeH (i := 10) (v := .int .i64 0) (d := 31) rfl rfl (by kernel_rfl) (by kernel_rfl) (by kernel_rfl) (fun _ _ _ h => h) (by rfl) (fun V hV => by obtain ⟨v1, v2⟩ := hV; go_simp) HS4.out ?_
      simp only [Act.put, List.setIfInBounds_toArray, List.set_cons_zero, List.set_cons_succ]
      obtain ⟨n0, n1x, n2, n3⟩ := XN.out.all2
      have bd : Below wr.heap.size wr (put2 wc4 (wr.heap.size) (.int .i64 ya0) (.int .i64 (-1))) := below_put2 bc4 LN.out _ _
      have HT : Hid ((put2 wc4 (wr.heap.size) (.int .i64 ya0) (.int .i64 (-1))).cell? ⟨w1.heap.size, 0, none⟩ = some (.int .i64 a) ∧ (put2 wc4 (wr.heap.size) (.int .i64 ya0) (.int .i64 (-1))).cell? ⟨w1.heap.size, 1, none⟩ = some (.int .i64 (-1))) := KEEP.out _ bd
      have YN : Hid (BX 23 (put2 wc4 (wr.heap.size) (.int .i64 ya0) (.int .i64 (-1))) (wr.heap.size) #[.int .i64 ya0, .int .i64 (-1)]) := XN.out.put2 _ _
      refine oneH (i := 12) rfl (by kernel_rfl) rfl (op_skip (w' := put2 wc4 (wr.heap.size) (.int .i64 ya0) (.int .i64 (-1))) rfl (by unfold put2; go_simp) ⟨HT.out, ?_⟩)
      clear n0 n1x n2 n3 XN
      generalize put2 wc4 (wr.heap.size) (.int .i64 ya0) (.int .i64 (-1)) = wp5 at *
      refine takeH (i := 13) (v := .bool sb) (d := 12) rfl rfl (by kernel_rfl) (by kernel_rfl) (by kernel_rfl) (fun _ _ _ h => h) (by rfl) (fun V hV => by obtain ⟨v1, v2⟩ := hV; go_simp) HT.out ?_
      simp only [Act.put, List.setIfInBounds_toArray, List.set_cons_zero, List.set_cons_succ]
      refine takeH (i := 14) (v := .int .i64 0) (d := 13) rfl rfl (by kernel_rfl) (by kernel_rfl) (by kernel_rfl) (fun _ _ _ h => h) (by rfl) (fun V hV => by obtain ⟨v1, v2⟩ := hV; go_simp) HT.out ?_
      simp only [Act.put, List.setIfInBounds_toArray, List.set_cons_zero, List.set_cons_succ]
      refine wpAnyH_done (by kernel_rfl) ?_ _
      have FB : Hid (Below wr.heap.size wr wp5) := bd
      exact HG.out ya yc (wr.heap.size) wp5 LN YN FB
  case g =>
    intro ya yc pb wN LN YN FB
    have NN : Hid (BX 23 wN w1.heap.size #[.int .i64 a, .int .i64 (-1)]) := N1.out.below FB.out N1.out.lt
    have BF : Hid (Below w1.heap.size w1 wN) := A1.out.trans (FB.out.mono A1.out.size)
    obtain ⟨y0, y1, _⟩ := YN.out.all2
    obtain ⟨x0, x1, _⟩ := NN.out.all2
    clear CP CV CW KEEP KR epk evl ewk
    rcases HFF.out with ⟨rfl, h1, h2⟩ | ⟨rfl, rfl, h2⟩
    · have dne : (a == ya0) = false := by simp only [beq_eq_false_iff_ne]; rcases h2 with h2 | h2 <;> omega
      have dge : ya0 ≥ -1 := by omega
      have dg0 : ya0 ≥ 0 := by omega
      by_cases e1 : a = -1
      · have d1 : (a == -1) = true := by simpa using e1
        clear h1 h2 e1 hab
        go_wp2_with fail
        go_ret
        exact ⟨rfl, BF.out⟩
      · have d1 : (a == -1) = false := by simpa using e1
        have dle : ya0 ≤ a := by rcases h2 with h2 | h2 <;> omega
        clear h1 h2 e1 hab
        go_wp2_with fail
        go_ret
        exact ⟨rfl, BF.out⟩
    · have dee : (ya0 == ya0) = true := by simp
      have dge : ya0 ≥ -1 := by omega
      by_cases e1 : ya0 = -1
      · have d1 : (ya0 == -1) = true := by simpa using e1
        have hn : ns3 = [] := HNIL.out (by rcases h2 with h2 | h2; omega; exact h2)
        have dl : ((ns3.length : Int) == 0) = true := by rw [hn]; rfl
        have d0 : ¬ ya0 ≥ 0 := by omega
        clear h2 e1 hab hn
        go_wp2_with fail
        go_ret
        exact ⟨rfl, BF.out⟩
      · have d1 : (ya0 == -1) = false := by simpa using e1
        have d0 : ya0 ≥ 0 := by omega
        have dle : ya0 ≤ ya0 := Int.le_refl _
        clear h2 e1 hab
        go_wp2_with fail
        go_ret
        exact ⟨rfl, BF.out⟩

set_option maxHeartbeats 400000 in
set_option maxRecDepth 100000 in
theorem lifted (os : Os) (started : os.Started) (H : Type) (enc : TypeId × Value → H) :
    ReturnsInHanded {} Try.checked os 6 .any (Rows.progFallsSpec.pre6 enc Try.prog Try.f6 Rows.progFallsRow.domain false) (Rows.progFallsSpec.post enc Try.prog Try.f6 false true false false) := by
  refine returnsInHanded_of_change_sized (C := Try.checked) own started (by kernel_rfl) Try.func6
    (ChangeSpec.witness6 (enc := enc) (C := Try.checked) false ⟨#[], #[.int .i64 0, .int .i64 0, .int .i64 0, .slice none 0 0], []⟩ 8 (by kernel_rfl) (by kernel_rfl) (by kernel_rfl) (by kernel_rfl)) ?_
  intro W base args ds gs before hval0 hW _ hsz0 _
  have hval : ∀ (j : Nat) t v, Try.f6.params[j]? = some t → args[j]? = some v → Value.okWide Try.prog W .any base t v := hval0
  have hW' := hW
  obtain ⟨p, q, hA0, hV, rfl, hfz, hnd⟩ := hW
  have hA : DataW.TrodAll enc Try.prog W 0 (fun _ => true) true Try.f6.params.toList args.toList ds p := hA0
  have hsz : (DataW.weightsEach Try.prog (Try.f6.params.toList ++ Rows.progFallsSpec.plain.varTypes Try.prog) (ds ++ gs)).all (fun x => decide (x ≤ reachBytes)) = true := hsz0
  rw [Try.params6] at hA hval hsz
  obtain ⟨v0, vs0, d0, ds0, p0, q0, hargs, rfl, rfl, h0, r0⟩ := trodAll_cons hA
  obtain ⟨v1, vs1, d1, ds1, p1, q1, rfl, rfl, rfl, h1, r1⟩ := trodAll_cons r0
  obtain ⟨v2, vs2, d2, ds2, p2, q2, rfl, rfl, rfl, h2, r2⟩ := trodAll_cons r1
  obtain ⟨v3, vs3, d3, ds3, p3, q3, rfl, rfl, rfl, h3, r3⟩ := trodAll_cons r2
  obtain ⟨rfl, rfl, rfl⟩ := trodAll_nil r3
  obtain rfl : args = #[v0, v1, v2, v3] := by cases args; simp_all
  obtain ⟨rfl, rfl⟩ := trodVars_none hV
  have k0 := h0
  have lt0 : ∀ x ∈ p0, x.block < W.heap.size := by obtain ⟨m, hm⟩ := k0; exact DataW.trod_lt m _ _ _ hm
  have k1 := h1
  have lt1 : ∀ x ∈ p1, x.block < W.heap.size := by obtain ⟨m, hm⟩ := k1; exact DataW.trod_lt m _ _ _ hm
  have k2 := h2
  have lt2 : ∀ x ∈ p2, x.block < W.heap.size := by obtain ⟨m, hm⟩ := k2; exact DataW.trod_lt m _ _ _ hm
  have k3 := h3
  have lt3 : ∀ x ∈ p3, x.block < W.heap.size := by obtain ⟨m, hm⟩ := k3; exact DataW.trod_lt m _ _ _ hm
  have hw3 : ∀ m ∈ d3.weights Try.prog 24, m ≤ reachBytes := fun m hm => by simpa using List.all_eq_true.1 hsz _ (DataW.weights_mem_each (j := 3) (t := 24) rfl rfl m hm)
  obtain ⟨n0, rfl, _, _, wf0⟩ := open_int Try.underlying3 (hval 0 3 v0 rfl rfl) h0
  have hI0 := bounds_i64 wf0
  obtain ⟨n1, rfl, _, _, wf1⟩ := open_int Try.underlying3 (hval 1 3 v1 rfl rfl) h1
  have hI1 := bounds_i64 wf1
  obtain ⟨n2, rfl, _, _, wf2⟩ := open_int Try.underlying3 (hval 2 3 v2 rfl rfl) h2
  have hI2 := bounds_i64 wf2
  obtain ⟨ns3, hR3, hB3, hL3⟩ := open_intsR (okWide_slice Try.underlying24 (hval 3 24 v3 rfl rfl)) h3 hw3
  clear hA0 hval0
  refine (walk n0 n1 n2 v3 ns3 W hI0 hI1 hI2 hR3 hB3 hL3).mono fun e W' ⟨he, bel⟩ => ?_
  subst he
  exact ⟨_, rfl, _, _, _, [], _, [], hW', trodAll_mk1 (shut_bool Try.underlying4 _), (trodAll_cons_mk (Below.trod laidOut (by kernel_rfl) (of_decide_eq_true (by kernel_rfl)) k0 bel lt0) (trodAll_cons_mk (Below.trod laidOut (by kernel_rfl) (of_decide_eq_true (by kernel_rfl)) k1 bel lt1) (trodAll_cons_mk (Below.trod laidOut (by kernel_rfl) (of_decide_eq_true (by kernel_rfl)) k2 bel lt2) (trodAll_cons_mk (Below.trod laidOut (by kernel_rfl) (of_decide_eq_true (by kernel_rfl)) k3 bel lt3) trodAll_mk0)))), rfl, bel.frame _, fun h => by cases h⟩

theorem over : Rows.progFallsRow.holds Try.pinned (OpenSpec.ofChange Rows.progFallsSpec) :=
  OpenClaim.holds_of_wide 6 Try.f6 rfl rfl rfl rfl rfl rfl rfl ⟨rfl, rfl, rfl, rfl, rfl⟩ rfl rfl rfl rfl rfl (by kernel_rfl) Try.func6 (by kernel_rfl)
    (of_decide_eq_true (by kernel_rfl)) (by unfold Func.isWrapper; first | (rw [if_pos (by decide +kernel)]; kernel_rfl) | (rw [if_neg (by decide +kernel)]; exact ⟨rfl, rfl⟩))
    (fun os started H enc _ => lifted os started H enc)

/-- The statement. -/
theorem proved : Rows.ProgFallsSaid := over
#print axioms proved
end Go.Proofs.Ytokbfgopemgbcaa.progFalls
