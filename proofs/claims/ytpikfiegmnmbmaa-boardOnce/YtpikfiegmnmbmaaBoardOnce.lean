/-
  No worker reports twice, nor for another round or epoch (the law BoardOnce returns true for all raw numbers, and its arguments read as before); no condition.
-/
import Derived.Test.YtpikfiegmnmbmaaReported
import Derived.Test.YtpikfiegmnmbmaaTallyReady
import Derived.Test.YtpikfiegmnmbmaaTallyMem
import Derived.Test.YtpikfiegmnmbmaaBoardHear
import Derived.Test.YtpikfiegmnmbmaaOnceMath
import Derived.Test.YtpikfiegmnmbmaaRefRepCopy
import Derived.WalkKit
import Derived.ProofKit
import Derived.OpenShut
import Derived.ShutString
import Derived.SizedLaws
import Derived.ChangeOld
import Derived.Below
namespace Go.Proofs.Ytpikfiegmnmbmaa.boardOnce
set_option maxRecDepth 100000
open Go.ChangeShapes Go.WideShapes Go.ChangeAt Go.RowKit

theorem own : ownKnob Try.prog.godebug = none := by kernel_rfl
theorem laidOut : laidOutB Try.prog = true := by kernel_rfl

set_option maxHeartbeats 8000000 in
set_option maxRecDepth 100000 in
theorem walk (n0 : Int) (v1 : Value) (ts1 : List TyL) (n2 : Int) (n3 : Int) (n4 : Int) (w : World) (hI0 : -9223372036854775808 ≤ n0 ∧ n0 ≤ 9223372036854775807) (hR1 : TlsR w v1 ts1) (hB1 : ∀ t ∈ ts1, TyB t) (hI2 : -9223372036854775808 ≤ n2 ∧ n2 ≤ 9223372036854775807) (hI3 : -9223372036854775808 ≤ n3 ∧ n3 ≤ 9223372036854775807) (hI4 : -9223372036854775808 ≤ n4 ∧ n4 ≤ 9223372036854775807) :
    Calls Try.prog 8 #[.int .i64 n0, v1, .int .i64 n2, .int .i64 n3, .int .i64 n4] w fun e w' => e = .returned (.bool true) ∧ Below w.heap.size w w' := by
  have _u := hI0
  clear _u
  have _u := hR1
  clear _u
  have _u := hB1
  clear _u
  have _u := hI2
  clear _u
  have _u := hI3
  clear _u
  have _u := hI4
  clear _u
  have hx := pickF_bd n0 5 (by omega)
  obtain ⟨W, hWe⟩ : ∃ W : Nat, (W : Int) = 1 + pickF n0 5 := ⟨(1 + pickF n0 5).toNat, by omega⟩
  have hW : 1 ≤ W ∧ W ≤ 5 := by omega
  have HW : Hid (1 ≤ W ∧ W ≤ 5) := hW
  have CP : Hid (∀ X, Calls Try.prog 17 #[.int .i64 n0, .int .i64 5] X fun e w' => e = .returned (.int .i64 (pickF n0 5)) ∧ w' = X) := fun X => picked_any n0 5 X hI0.1 hI0.2 (by decide) (by decide)
  have hW1 : 1 ≤ W := hW.1
  have hW5 : W ≤ 5 := hW.2
  clear hI0 hx hW
  generalize pickF n0 5 = y0 at *
  have hy : (1 : Int) + y0 = (W : Int) := hWe.symm
  clear hWe
  have HT : Hid (TlsR w v1 ts1) := hR1
  have HTB : Hid (∀ t ∈ ts1, TyB t) := hB1
  obtain ⟨la, lc, rfl, hll⟩ := hR1.shape
  clear hR1 hB1
  have hp2 := pickF_bd n2 (W : Int) (by omega)
  have hp3 := pickF_bd n3 5 (by omega)
  have hp4 := pickF_bd n4 4 (by omega)
  have CP2 : Hid (∀ X, Calls Try.prog 17 #[.int .i64 n2, .int .i64 (W : Int)] X fun e w' => e = .returned (.int .i64 (pickF n2 (W : Int))) ∧ w' = X) := fun X => picked_any n2 (W : Int) X hI2.1 hI2.2 (by omega) (by omega)
  have CP3 : Hid (∀ X, Calls Try.prog 17 #[.int .i64 n3, .int .i64 5] X fun e w' => e = .returned (.int .i64 (pickF n3 5)) ∧ w' = X) := fun X => picked_any n3 5 X hI3.1 hI3.2 (by omega) (by omega)
  have CP4 : Hid (∀ X, Calls Try.prog 17 #[.int .i64 n4, .int .i64 4] X fun e w' => e = .returned (.int .i64 (pickF n4 4)) ∧ w' = X) := fun X => picked_any n4 4 X hI4.1 hI4.2 (by omega) (by omega)
  clear hI2 hI3 hI4
  generalize pickF n2 (W : Int) = y2 at *
  generalize pickF n3 5 = y3 at *
  generalize pickF n4 4 = y4 at *
  obtain ⟨k, hk⟩ : ∃ k : Nat, y2 = (k : Int) := ⟨y2.toNat, by omega⟩
  subst hk
  have hk : k < W := by omega
  have CR1 : Hid (∀ X, TlsR X (.slice la ts1.length lc) ts1 → Calls Try.prog 18 #[.int .i64 (W : Int), .slice la ts1.length lc, .slice none 0 0, .int .i64 (W : Int), .int .i64 (-1)] X (RptP X W (repsT W ts1 [] (W : Int) (-1) W))) := fun X h1 => reported_any W HW.out _ ts1 _ [] (W : Int) (-1) X h1 HTB.out (RowK.nil _ _ _) (fun x hx => by cases hx)
  go_enter Try.func8, Try.ntmps8
  go_wp2_with fail
  refine (CP.out _).mono ?_
  rintro e w0 ⟨rfl, e0⟩
  have e0' : w = w0 := e0.symm
  subst e0'
  clear e0
  have A0 : Hid (Below w.heap.size w w) := Below.refl _ _
  go_wp2_with fail
  refine (CR1.out _ (HT.out.below A0.out (Nat.le_refl _))).mono ?_
  rintro e w1a ⟨v, rfl, hr, hb⟩
  obtain ⟨x1a, x1c, hs⟩ := hr.shape
  rw [full_len] at hs
  have hbA : Below w.heap.size w w1a := A0.out.trans (hb.mono A0.out.size)
  have N1 : Hid (Below w.heap.size w (w1a.alloc (.cells #[.int .i64 (W : Int), .int .i64 2, .int .i64 3, v] 24)) ∧ BX 24 (w1a.alloc (.cells #[.int .i64 (W : Int), .int .i64 2, .int .i64 3, v] 24)) w1a.heap.size #[.int .i64 (W : Int), .int .i64 2, .int .i64 3, v] ∧ RpsR (w1a.alloc (.cells #[.int .i64 (W : Int), .int .i64 2, .int .i64 3, v] 24)) v (repsT W ts1 [] (W : Int) (-1) W)) := ⟨hbA.alloc hbA.size _, BX.new _ _ _, hr.below (below_alloc _ _) (Nat.le_refl _)⟩
  subst hs
  clear hr hb hbA
  go_upto_region 3 with fail
  generalize w1a.alloc (.cells #[.int .i64 (W : Int), .int .i64 2, .int .i64 3, .slice x1a W x1c] 24) = w1b at *
  generalize w1a.heap.size = q1 at *
  have hl1 := N1.out.2.1.lt
  obtain ⟨rb, roff, rcap, e1, _, _, hlt, hv⟩ := N1.out.2.2.at (by rw [full_len]; omega)
  rw [full_len] at e1
  injection e1 with e1 e2 e3
  subst e1 e3
  clear e2
  obtain ⟨r, hr⟩ := getX (show k < (repsT W ts1 [] (W : Int) (-1) W).length by rw [full_len]; exact hk)
  obtain ⟨sa, sc, ga, gc, hC⟩ := hv k r hr
  have HMEM : Hid (r ∈ repsT W ts1 [] (W : Int) (-1) W) := List.mem_of_getElem? hr
  have K : Hid (∀ X, Below w1b.heap.size w1b X → Below w.heap.size w X ∧ BX 24 X q1 #[.int .i64 (W : Int), .int .i64 2, .int .i64 3, .slice (some ⟨rb, roff, none⟩) W x1c] ∧ RpsR X (.slice (some ⟨rb, roff, none⟩) W x1c) (repsT W ts1 [] (W : Int) (-1) W) ∧ RepC X rb (roff + k * 7) r sa sc ga gc) := fun X hX => ⟨N1.out.1.trans (hX.mono N1.out.1.size), N1.out.2.1.below hX hl1, N1.out.2.2.below hX (Nat.le_refl _), hC.below hX (Nat.le_refl _)⟩
  have KS : Hid (∀ X, Below w1b.heap.size w1b X → X.cell? ⟨q1, 3, none⟩ = some (.slice (some ⟨rb, roff, none⟩) W x1c) ∧ RepC X rb (roff + k * 7) r sa sc ga gc) := fun X hX => ⟨(K.out X hX).2.1.all4.2.2.2, (K.out X hX).2.2.2⟩
  clear hr hC hv hlt
  have ea : ∀ args w, (callFunc 17 args).run Try.prog w = .ok (.enter 17 args) w := enters_of Try.func17 (by kernel_rfl) rfl
  obtain ⟨F, hF⟩ : ∃ F : Int, F = if y3 = 3 ∧ y4 = 2 then 8 else 11 := ⟨_, rfl⟩
  have CH : Hid (∀ X, RpsR X (.slice (some ⟨rb, roff, none⟩) W x1c) (repsT W ts1 [] (W : Int) (-1) W) → RepC X rb (roff + k * 7) r sa sc ga gc → Calls Try.prog 13 #[.agg #[.int .i64 (W : Int), .int .i64 2, .int .i64 3, .slice (some ⟨rb, roff, none⟩) W x1c], .agg #[.int .i64 r.worker, .int .i64 y4, .int .i64 y3, .slice sa r.sent.length sc, .slice ga r.got.length gc, .int .i64 r.waking, .int .i64 r.opn]] X fun e w' => ∃ a c, e = .returned (.tuple #[.agg #[.int .i64 0, .int .i64 0, .int .i64 0, .slice a 0 c], .int .i64 F]) ∧ Below X.heap.size X w') := fun X h1 h2 => by
    have hE : heE (brdT W ts1 [] (W : Int) (-1) W) (atO2 r y4 y3) = F := by
      rw [hF]
      by_cases hc : y3 = 3 ∧ y4 = 2
      · rw [if_pos hc, hc.1, hc.2]
        exact once_two HW.out HMEM.out
      · rw [if_neg hc]
        exact once_no HW.out HMEM.out hc
    have hN : heE (brdT W ts1 [] (W : Int) (-1) W) (atO2 r y4 y3) ≠ 0 := by
      rw [hE, hF]
      split <;> decide
    refine (bHear_any (brdT W ts1 [] (W : Int) (-1) W) (atO2 r y4 y3) _ _ _ X h1 h2.2.1 h2.2.2 (brdT_B ⟨HW.out.2, HW.out.2⟩) (once_B HW.out.2 HMEM.out)).mono ?_
    rintro e w' ⟨vr, he, ho, hb⟩
    rw [once_bd hN] at he ho
    obtain ⟨a, c, hs⟩ := (OwnR.reads ho : RpsR w' vr []).shape
    rw [hE, hs] at he
    exact ⟨a, c, he, hb⟩
  have B0 : Hid (Below w1b.heap.size w1b w1b) := Below.refl _ _
  obtain ⟨c0, c1, c2, c3⟩ := (K.out _ B0.out).2.1.all4
  go_upto_region 5 with fail
  clear c0 c1 c2 c3 N1 CR1 CP
  have BD : Hid (Below w1b.heap.size w1b w1b.drew) := B0.out.drew
  have BA : Hid (Below w1b.heap.size w1b (w1b.drew.alloc (.cells #[.int .i64 0, .int .i64 0, .int .i64 0, .slice none 0 0, .slice none 0 0, .int .i64 0, .int .i64 0] 32))) := BD.out.alloc BD.out.size _
  have NX : Hid (BX 32 (w1b.drew.alloc (.cells #[.int .i64 0, .int .i64 0, .int .i64 0, .slice none 0 0, .slice none 0 0, .int .i64 0, .int .i64 0] 32)) w1b.heap.size #[.int .i64 0, .int .i64 0, .int .i64 0, .slice none 0 0, .slice none 0 0, .int .i64 0, .int .i64 0]) := BX.new _ _ _
  have F0 : Hid (Below w1b.heap.size w1b ((w1b.alloc (.cells #[.int .i64 r.worker, .int .i64 r.epoch, .int .i64 r.step, .slice sa r.sent.length sc, .slice ga r.got.length gc, .int .i64 r.waking, .int .i64 r.opn] 32)).drew) ∧ BX 32 ((w1b.alloc (.cells #[.int .i64 r.worker, .int .i64 r.epoch, .int .i64 r.step, .slice sa r.sent.length sc, .slice ga r.got.length gc, .int .i64 r.waking, .int .i64 r.opn] 32)).drew) w1b.heap.size #[.int .i64 r.worker, .int .i64 r.epoch, .int .i64 r.step, .slice sa r.sent.length sc, .slice ga r.got.length gc, .int .i64 r.waking, .int .i64 r.opn]) := ⟨(B0.out.alloc B0.out.size _).drew, (BX.new _ _ _).drew⟩
  refine region_lastF (S := fun V => V.cell? ⟨q1, 3, none⟩ = some (.slice (some ⟨rb, roff, none⟩) W x1c) ∧ RepC V rb (roff + k * 7) r sa sc ga gc) (by kernel_rfl) rfl (by kernel_rfl) (by kernel_rfl) ?_
  simp only [List.pop_toArray, List.dropLast_cons_cons, List.dropLast_singleton, List.size_toArray, List.length_cons, List.length_nil, Nat.reduceAdd]
  refine takeH (i := 0) (v := .pointer (some ⟨q1, 3, none⟩)) (d := 36) rfl rfl (by kernel_rfl) (by kernel_rfl) (by kernel_rfl) (fun _ _ _ h => h) (by rfl) (fun V hV => by obtain ⟨v1, ⟨v2, v3, v4, v5, v6, v7, v8⟩, _, _⟩ := hV; go_simp) (KS.out _ BD.out) ?_
  simp only [Act.put, List.setIfInBounds_toArray, List.set_cons_zero, List.set_cons_succ]
  refine takeH (i := 1) (v := .slice (some ⟨rb, roff, none⟩) W x1c) (d := 37) rfl rfl (by kernel_rfl) (by kernel_rfl) (by kernel_rfl) (fun _ _ _ h => h) (by rfl) (fun V hV => by obtain ⟨v1, ⟨v2, v3, v4, v5, v6, v7, v8⟩, _, _⟩ := hV; go_simp) (KS.out _ BD.out) ?_
  simp only [Act.put, List.setIfInBounds_toArray, List.set_cons_zero, List.set_cons_succ]
  refine takeH (i := 2) (v := .int .i64 n2) (d := 38) rfl rfl (by kernel_rfl) (by kernel_rfl) (by kernel_rfl) (fun _ _ _ h => h) (by rfl) (fun V hV => by obtain ⟨v1, ⟨v2, v3, v4, v5, v6, v7, v8⟩, _, _⟩ := hV; go_simp) (KS.out _ BD.out) ?_
  simp only [Act.put, List.setIfInBounds_toArray, List.set_cons_zero, List.set_cons_succ]
  refine takeH (i := 3) (v := .int .i64 (W : Int)) (d := 39) rfl rfl (by kernel_rfl) (by kernel_rfl) (by kernel_rfl) (fun _ _ _ h => h) (by rfl) (fun V hV => by obtain ⟨v1, ⟨v2, v3, v4, v5, v6, v7, v8⟩, _, _⟩ := hV; go_simp) (KS.out _ BD.out) ?_
  simp only [Act.put, List.setIfInBounds_toArray, List.set_cons_zero, List.set_cons_succ]
  refine twoH (i := 4) (j := 7) rfl rfl (by kernel_rfl) rfl rfl ?_ ?_
  case refine_1 =>
    refine call_gets (R := fun v w' => v = .int .i64 (k : Int) ∧ w' = w1b.drew) (d := 40) (f := 17) (xs := #[.tmp 38, .tmp 39]) (ats := #[3, 3]) rfl rfl ea (vs := #[.int .i64 n2, .int .i64 (W : Int)]) (by simp [Act.eval]) ((CP2.out (w1b.drew)).mono fun e w' h => ⟨_, h.1, rfl, h.2⟩) ?_
    rintro _ _ ⟨rfl, rfl⟩
    refine ⟨KS.out _ BD.out, ?_⟩
    simp only [Act.put, List.setIfInBounds_toArray, List.set_cons_zero, List.set_cons_succ]
    refine takeH (i := 5) (v := .pointer (some ⟨rb, roff + k * 7, none⟩)) (d := 41) rfl rfl (by kernel_rfl) (by kernel_rfl) (by kernel_rfl) (fun _ _ _ h => h) (by rfl) (fun V hV => by obtain ⟨v1, ⟨v2, v3, v4, v5, v6, v7, v8⟩, _, _⟩ := hV; go_simp) (KS.out _ BD.out) ?_
    simp only [Act.put, List.setIfInBounds_toArray, List.set_cons_zero, List.set_cons_succ]
    refine takeH (i := 6) (v := .agg #[.int .i64 r.worker, .int .i64 r.epoch, .int .i64 r.step, .slice sa r.sent.length sc, .slice ga r.got.length gc, .int .i64 r.waking, .int .i64 r.opn]) (d := 42) rfl rfl (by kernel_rfl) (by kernel_rfl) (by kernel_rfl) (fun _ _ _ h => h) (by rfl) (fun V hV => by obtain ⟨v1, ⟨v2, v3, v4, v5, v6, v7, v8⟩, _, _⟩ := hV; go_simp) (KS.out _ BD.out) ?_
    simp only [Act.put, List.setIfInBounds_toArray, List.set_cons_zero, List.set_cons_succ]
    refine oneH (i := 7) rfl (by kernel_rfl) rfl (op_run (d := 14) (v' := .pointer (some ⟨w1b.heap.size, 0, none⟩)) (w' := w1b.drew.alloc (.cells #[.int .i64 0, .int .i64 0, .int .i64 0, .slice none 0 0, .slice none 0 0, .int .i64 0, .int .i64 0] 32)) rfl (by go_simp) ⟨KS.out _ BA.out, ?_⟩)
    simp only [Act.put, List.setIfInBounds_toArray, List.set_cons_zero, List.set_cons_succ]
    refine wpAnyH_done (by kernel_rfl) ?_ _
    show Oper.wp _ _ _ _ _ _
    obtain ⟨f0, f1, f2, f3, f4, f5, f6⟩ := NX.out.all7f
    obtain ⟨d0, d1, d2, d3, d4, d5, d6⟩ := NX.out.all7
    go_upto_region 6 with fail
    clear f0 f1 f2 f3 f4 f5 f6 d0 d1 d2 d3 d4 d5 d6 NX BA BD
    generalize (w1b.alloc (.cells #[.int .i64 r.worker, .int .i64 r.epoch, .int .i64 r.step, .slice sa r.sent.length sc, .slice ga r.got.length gc, .int .i64 r.waking, .int .i64 r.opn] 32)).drew = wf at *
    obtain ⟨f0, f1, f2, f3, f4, f5, f6⟩ := F0.out.2.all7f
    obtain ⟨d0, d1, d2, d3, d4, d5, d6⟩ := F0.out.2.all7
    have G0 : Hid (Below w1b.heap.size w1b (wf.setCell ⟨w1b.heap.size, 2, none⟩ (.int .i64 y3)) ∧ BX 32 (wf.setCell ⟨w1b.heap.size, 2, none⟩ (.int .i64 y3)) w1b.heap.size #[.int .i64 r.worker, .int .i64 r.epoch, .int .i64 y3, .slice sa r.sent.length sc, .slice ga r.got.length gc, .int .i64 r.waking, .int .i64 r.opn]) := ⟨F0.out.1.setCell (Nat.le_refl _) _, F0.out.2.set 2 _⟩
    go_wp2_with fail
    refine (CP3.out _).mono ?_
    rintro e w9 ⟨rfl, e9⟩
    have e9' : wf = w9 := e9.symm
    subst e9'
    clear e9
    go_upto_region 7 with fail
    clear f0 f1 f2 f3 f4 f5 f6 d0 d1 d2 d3 d4 d5 d6 F0
    generalize wf.setCell ⟨w1b.heap.size, 2, none⟩ (.int .i64 y3) = wg at *
    obtain ⟨f0, f1, f2, f3, f4, f5, f6⟩ := G0.out.2.all7f
    obtain ⟨d0, d1, d2, d3, d4, d5, d6⟩ := G0.out.2.all7
    have H0 : Hid (Below w1b.heap.size w1b (wg.setCell ⟨w1b.heap.size, 1, none⟩ (.int .i64 y4)) ∧ BX 32 (wg.setCell ⟨w1b.heap.size, 1, none⟩ (.int .i64 y4)) w1b.heap.size #[.int .i64 r.worker, .int .i64 y4, .int .i64 y3, .slice sa r.sent.length sc, .slice ga r.got.length gc, .int .i64 r.waking, .int .i64 r.opn]) := ⟨G0.out.1.setCell (Nat.le_refl _) _, G0.out.2.set 1 _⟩
    go_wp2_with fail
    refine (CP4.out _).mono ?_
    rintro e w9 ⟨rfl, e9⟩
    have e9' : wg = w9 := e9.symm
    subst e9'
    clear e9
    go_upto_region 8 with fail
    clear f0 f1 f2 f3 f4 f5 f6 d0 d1 d2 d3 d4 d5 d6 G0
    generalize wg.setCell ⟨w1b.heap.size, 1, none⟩ (.int .i64 y4) = wh at *
    obtain ⟨d0, d1, d2, d3, d4, d5, d6⟩ := H0.out.2.all7
    obtain ⟨c0, c1, c2, c3⟩ := (K.out _ H0.out.1).2.1.all4
    go_wp2_with fail
    refine (CH.out _ (K.out _ H0.out.1).2.2.1 (K.out _ H0.out.1).2.2.2).mono ?_
    rintro e wi ⟨a, c, rfl, hb⟩
    have bi : Below w1b.heap.size w1b wi := H0.out.1.trans (hb.mono H0.out.1.size)
    have J0 : Hid (Below w1b.heap.size w1b (wi.alloc (.cells #[.int .i64 0, .int .i64 0, .int .i64 0, .slice a 0 c] 24)) ∧ BX 32 (wi.alloc (.cells #[.int .i64 0, .int .i64 0, .int .i64 0, .slice a 0 c] 24)) w1b.heap.size #[.int .i64 r.worker, .int .i64 y4, .int .i64 y3, .slice sa r.sent.length sc, .slice ga r.got.length gc, .int .i64 r.waking, .int .i64 r.opn] ∧ BX 24 (wi.alloc (.cells #[.int .i64 0, .int .i64 0, .int .i64 0, .slice a 0 c] 24)) wi.heap.size #[.int .i64 0, .int .i64 0, .int .i64 0, .slice a 0 c]) := ⟨bi.alloc bi.size _, (H0.out.2.below hb H0.out.2.lt).below (below_alloc _ _) (H0.out.2.below hb H0.out.2.lt).lt, BX.new _ _ _⟩
    clear d0 d1 d2 d3 d4 d5 d6 c0 c1 c2 c3 hb bi
    go_upto_region 9 with fail
    generalize wi.alloc (.cells #[.int .i64 0, .int .i64 0, .int .i64 0, .slice a 0 c] 24) = wj at *
    generalize wi.heap.size = q9 at *
    obtain ⟨d0, d1, d2, d3, d4, d5, d6⟩ := J0.out.2.1.all7
    obtain ⟨c0, c1, c2, c3⟩ := J0.out.2.2.all4
    clear H0 CH CP2 CP3 CP4
    by_cases g3 : y3 = 3
    case neg =>
      have hF1 : F = 11 := by rw [hF, if_neg (fun h => g3 h.1)]
      clear hF
      subst hF1
      have t3 : (y3 != 3) = true := by simp [g3]
      go_wp2_with fail
      go_ret
      exact ⟨rfl, (K.out _ J0.out.1).1⟩
    by_cases g4 : y4 = 2
    case neg =>
      have hF1 : F = 11 := by rw [hF, if_neg (fun h => g4 h.2)]
      clear hF
      subst hF1 g3
      have t4 : (y4 != 2) = true := by simp [g4]
      go_wp2_with fail
      go_ret
      exact ⟨rfl, (K.out _ J0.out.1).1⟩
    have hF1 : F = 8 := by rw [hF, if_pos ⟨g3, g4⟩]
    clear hF
    subst hF1 g3 g4
    go_wp2_with fail
    go_ret
    exact ⟨rfl, (K.out _ J0.out.1).1⟩
  case refine_2 =>
    refine op_run (d := 14) (v' := .pointer (some ⟨w1b.heap.size, 0, none⟩)) (w' := w1b.drew.alloc (.cells #[.int .i64 0, .int .i64 0, .int .i64 0, .slice none 0 0, .slice none 0 0, .int .i64 0, .int .i64 0] 32)) rfl (by go_simp) ⟨KS.out _ BA.out, ?_⟩
    simp only [Act.put, List.setIfInBounds_toArray, List.set_cons_zero, List.set_cons_succ]
    refine oneH (i := 4) rfl (by kernel_rfl) rfl (call_gets (R := fun v w' => v = .int .i64 (k : Int) ∧ w' = w1b.drew.alloc (.cells #[.int .i64 0, .int .i64 0, .int .i64 0, .slice none 0 0, .slice none 0 0, .int .i64 0, .int .i64 0] 32)) (d := 40) (f := 17) (xs := #[.tmp 38, .tmp 39]) (ats := #[3, 3]) rfl rfl ea (vs := #[.int .i64 n2, .int .i64 (W : Int)]) (by simp [Act.eval]) ((CP2.out (w1b.drew.alloc (.cells #[.int .i64 0, .int .i64 0, .int .i64 0, .slice none 0 0, .slice none 0 0, .int .i64 0, .int .i64 0] 32))).mono fun e w' h => ⟨_, h.1, rfl, h.2⟩) ?_)
    rintro _ _ ⟨rfl, rfl⟩
    refine ⟨KS.out _ BA.out, ?_⟩
    simp only [Act.put, List.setIfInBounds_toArray, List.set_cons_zero, List.set_cons_succ]
    refine takeH (i := 5) (v := .pointer (some ⟨rb, roff + k * 7, none⟩)) (d := 41) rfl rfl (by kernel_rfl) (by kernel_rfl) (by kernel_rfl) (fun _ _ _ h => h) (by rfl) (fun V hV => by obtain ⟨v1, ⟨v2, v3, v4, v5, v6, v7, v8⟩, _, _⟩ := hV; go_simp) (KS.out _ BA.out) ?_
    simp only [Act.put, List.setIfInBounds_toArray, List.set_cons_zero, List.set_cons_succ]
    refine takeH (i := 6) (v := .agg #[.int .i64 r.worker, .int .i64 r.epoch, .int .i64 r.step, .slice sa r.sent.length sc, .slice ga r.got.length gc, .int .i64 r.waking, .int .i64 r.opn]) (d := 42) rfl rfl (by kernel_rfl) (by kernel_rfl) (by kernel_rfl) (fun _ _ _ h => h) (by rfl) (fun V hV => by obtain ⟨v1, ⟨v2, v3, v4, v5, v6, v7, v8⟩, _, _⟩ := hV; go_simp) (KS.out _ BA.out) ?_
    simp only [Act.put, List.setIfInBounds_toArray, List.set_cons_zero, List.set_cons_succ]
    refine wpAnyH_done (by kernel_rfl) ?_ _
    show Oper.wp _ _ _ _ _ _
    obtain ⟨f0, f1, f2, f3, f4, f5, f6⟩ := NX.out.all7f
    obtain ⟨d0, d1, d2, d3, d4, d5, d6⟩ := NX.out.all7
    go_upto_region 6 with fail
    clear f0 f1 f2 f3 f4 f5 f6 d0 d1 d2 d3 d4 d5 d6 NX BA BD
    generalize (w1b.alloc (.cells #[.int .i64 r.worker, .int .i64 r.epoch, .int .i64 r.step, .slice sa r.sent.length sc, .slice ga r.got.length gc, .int .i64 r.waking, .int .i64 r.opn] 32)).drew = wf at *
    obtain ⟨f0, f1, f2, f3, f4, f5, f6⟩ := F0.out.2.all7f
    obtain ⟨d0, d1, d2, d3, d4, d5, d6⟩ := F0.out.2.all7
    have G0 : Hid (Below w1b.heap.size w1b (wf.setCell ⟨w1b.heap.size, 2, none⟩ (.int .i64 y3)) ∧ BX 32 (wf.setCell ⟨w1b.heap.size, 2, none⟩ (.int .i64 y3)) w1b.heap.size #[.int .i64 r.worker, .int .i64 r.epoch, .int .i64 y3, .slice sa r.sent.length sc, .slice ga r.got.length gc, .int .i64 r.waking, .int .i64 r.opn]) := ⟨F0.out.1.setCell (Nat.le_refl _) _, F0.out.2.set 2 _⟩
    go_wp2_with fail
    refine (CP3.out _).mono ?_
    rintro e w9 ⟨rfl, e9⟩
    have e9' : wf = w9 := e9.symm
    subst e9'
    clear e9
    go_upto_region 7 with fail
    clear f0 f1 f2 f3 f4 f5 f6 d0 d1 d2 d3 d4 d5 d6 F0
    generalize wf.setCell ⟨w1b.heap.size, 2, none⟩ (.int .i64 y3) = wg at *
    obtain ⟨f0, f1, f2, f3, f4, f5, f6⟩ := G0.out.2.all7f
    obtain ⟨d0, d1, d2, d3, d4, d5, d6⟩ := G0.out.2.all7
    have H0 : Hid (Below w1b.heap.size w1b (wg.setCell ⟨w1b.heap.size, 1, none⟩ (.int .i64 y4)) ∧ BX 32 (wg.setCell ⟨w1b.heap.size, 1, none⟩ (.int .i64 y4)) w1b.heap.size #[.int .i64 r.worker, .int .i64 y4, .int .i64 y3, .slice sa r.sent.length sc, .slice ga r.got.length gc, .int .i64 r.waking, .int .i64 r.opn]) := ⟨G0.out.1.setCell (Nat.le_refl _) _, G0.out.2.set 1 _⟩
    go_wp2_with fail
    refine (CP4.out _).mono ?_
    rintro e w9 ⟨rfl, e9⟩
    have e9' : wg = w9 := e9.symm
    subst e9'
    clear e9
    go_upto_region 8 with fail
    clear f0 f1 f2 f3 f4 f5 f6 d0 d1 d2 d3 d4 d5 d6 G0
    generalize wg.setCell ⟨w1b.heap.size, 1, none⟩ (.int .i64 y4) = wh at *
    obtain ⟨d0, d1, d2, d3, d4, d5, d6⟩ := H0.out.2.all7
    obtain ⟨c0, c1, c2, c3⟩ := (K.out _ H0.out.1).2.1.all4
    go_wp2_with fail
    refine (CH.out _ (K.out _ H0.out.1).2.2.1 (K.out _ H0.out.1).2.2.2).mono ?_
    rintro e wi ⟨a, c, rfl, hb⟩
    have bi : Below w1b.heap.size w1b wi := H0.out.1.trans (hb.mono H0.out.1.size)
    have J0 : Hid (Below w1b.heap.size w1b (wi.alloc (.cells #[.int .i64 0, .int .i64 0, .int .i64 0, .slice a 0 c] 24)) ∧ BX 32 (wi.alloc (.cells #[.int .i64 0, .int .i64 0, .int .i64 0, .slice a 0 c] 24)) w1b.heap.size #[.int .i64 r.worker, .int .i64 y4, .int .i64 y3, .slice sa r.sent.length sc, .slice ga r.got.length gc, .int .i64 r.waking, .int .i64 r.opn] ∧ BX 24 (wi.alloc (.cells #[.int .i64 0, .int .i64 0, .int .i64 0, .slice a 0 c] 24)) wi.heap.size #[.int .i64 0, .int .i64 0, .int .i64 0, .slice a 0 c]) := ⟨bi.alloc bi.size _, (H0.out.2.below hb H0.out.2.lt).below (below_alloc _ _) (H0.out.2.below hb H0.out.2.lt).lt, BX.new _ _ _⟩
    clear d0 d1 d2 d3 d4 d5 d6 c0 c1 c2 c3 hb bi
    go_upto_region 9 with fail
    generalize wi.alloc (.cells #[.int .i64 0, .int .i64 0, .int .i64 0, .slice a 0 c] 24) = wj at *
    generalize wi.heap.size = q9 at *
    obtain ⟨d0, d1, d2, d3, d4, d5, d6⟩ := J0.out.2.1.all7
    obtain ⟨c0, c1, c2, c3⟩ := J0.out.2.2.all4
    clear H0 CH CP2 CP3 CP4
    by_cases g3 : y3 = 3
    case neg =>
      have hF1 : F = 11 := by rw [hF, if_neg (fun h => g3 h.1)]
      clear hF
      subst hF1
      have t3 : (y3 != 3) = true := by simp [g3]
      go_wp2_with fail
      go_ret
      exact ⟨rfl, (K.out _ J0.out.1).1⟩
    by_cases g4 : y4 = 2
    case neg =>
      have hF1 : F = 11 := by rw [hF, if_neg (fun h => g4 h.2)]
      clear hF
      subst hF1 g3
      have t4 : (y4 != 2) = true := by simp [g4]
      go_wp2_with fail
      go_ret
      exact ⟨rfl, (K.out _ J0.out.1).1⟩
    have hF1 : F = 8 := by rw [hF, if_pos ⟨g3, g4⟩]
    clear hF
    subst hF1 g3 g4
    go_wp2_with fail
    go_ret
    exact ⟨rfl, (K.out _ J0.out.1).1⟩

set_option maxHeartbeats 400000 in
set_option maxRecDepth 100000 in
theorem lifted (os : Os) (started : os.Started) (H : Type) (enc : TypeId × Value → H) :
    ReturnsInHanded {} Try.checked os 8 .any (Rows.boardOnceSpec.pre6 enc Try.prog Try.f8 Rows.boardOnceRow.domain false) (Rows.boardOnceSpec.post enc Try.prog Try.f8 false true false false) := by
  refine returnsInHanded_of_change_sized (C := Try.checked) own started (by kernel_rfl) Try.func8
    (ChangeSpec.witness6 (enc := enc) (C := Try.checked) false ⟨#[], #[.int .i64 0, .slice none 0 0, .int .i64 0, .int .i64 0, .int .i64 0], []⟩ 8 (by kernel_rfl) (by kernel_rfl) (by kernel_rfl) (by kernel_rfl)) ?_
  intro W base args ds gs before hval0 hW _ hsz0 _
  have hval : ∀ (j : Nat) t v, Try.f8.params[j]? = some t → args[j]? = some v → Value.okWide Try.prog W .any base t v := hval0
  have hW' := hW
  obtain ⟨p, q, hA0, hV, rfl, hfz, hnd⟩ := hW
  have hA : DataW.TrodAll enc Try.prog W 0 (fun _ => true) true Try.f8.params.toList args.toList ds p := hA0
  have hsz : (DataW.weightsEach Try.prog (Try.f8.params.toList ++ Rows.boardOnceSpec.plain.varTypes Try.prog) (ds ++ gs)).all (fun x => decide (x ≤ reachBytes)) = true := hsz0
  rw [Try.params8] at hA hval hsz
  obtain ⟨v0, vs0, d0, ds0, p0, q0, hargs, rfl, rfl, h0, r0⟩ := trodAll_cons hA
  obtain ⟨v1, vs1, d1, ds1, p1, q1, rfl, rfl, rfl, h1, r1⟩ := trodAll_cons r0
  obtain ⟨v2, vs2, d2, ds2, p2, q2, rfl, rfl, rfl, h2, r2⟩ := trodAll_cons r1
  obtain ⟨v3, vs3, d3, ds3, p3, q3, rfl, rfl, rfl, h3, r3⟩ := trodAll_cons r2
  obtain ⟨v4, vs4, d4, ds4, p4, q4, rfl, rfl, rfl, h4, r4⟩ := trodAll_cons r3
  obtain ⟨rfl, rfl, rfl⟩ := trodAll_nil r4
  obtain rfl : args = #[v0, v1, v2, v3, v4] := by cases args; simp_all
  obtain ⟨rfl, rfl⟩ := trodVars_none hV
  have k0 := h0
  have lt0 : ∀ x ∈ p0, x.block < W.heap.size := by obtain ⟨m, hm⟩ := k0; exact DataW.trod_lt m _ _ _ hm
  have k1 := h1
  have lt1 : ∀ x ∈ p1, x.block < W.heap.size := by obtain ⟨m, hm⟩ := k1; exact DataW.trod_lt m _ _ _ hm
  have k2 := h2
  have lt2 : ∀ x ∈ p2, x.block < W.heap.size := by obtain ⟨m, hm⟩ := k2; exact DataW.trod_lt m _ _ _ hm
  have k3 := h3
  have lt3 : ∀ x ∈ p3, x.block < W.heap.size := by obtain ⟨m, hm⟩ := k3; exact DataW.trod_lt m _ _ _ hm
  have k4 := h4
  have lt4 : ∀ x ∈ p4, x.block < W.heap.size := by obtain ⟨m, hm⟩ := k4; exact DataW.trod_lt m _ _ _ hm
  obtain ⟨n0, rfl, _, _, wf0⟩ := open_int Try.underlying3 (hval 0 3 v0 rfl rfl) h0
  have hI0 := bounds_i64 wf0
  obtain ⟨ts1, hR1, hB1⟩ := open_tallies (okWide_slice Try.underlying39 (hval 1 39 v1 rfl rfl)) h1
  obtain ⟨n2, rfl, _, _, wf2⟩ := open_int Try.underlying3 (hval 2 3 v2 rfl rfl) h2
  have hI2 := bounds_i64 wf2
  obtain ⟨n3, rfl, _, _, wf3⟩ := open_int Try.underlying3 (hval 3 3 v3 rfl rfl) h3
  have hI3 := bounds_i64 wf3
  obtain ⟨n4, rfl, _, _, wf4⟩ := open_int Try.underlying3 (hval 4 3 v4 rfl rfl) h4
  have hI4 := bounds_i64 wf4
  clear hA0 hval0
  refine (walk n0 v1 ts1 n2 n3 n4 W hI0 hR1 hB1 hI2 hI3 hI4).mono fun e W' ⟨he, bel⟩ => ?_
  subst he
  exact ⟨_, rfl, _, _, _, [], _, [], hW', trodAll_mk1 (shut_bool Try.underlying4 _), (trodAll_cons_mk (Below.trod laidOut (by kernel_rfl) (of_decide_eq_true (by kernel_rfl)) k0 bel lt0) (trodAll_cons_mk (Below.trod laidOut (by kernel_rfl) (of_decide_eq_true (by kernel_rfl)) k1 bel lt1) (trodAll_cons_mk (Below.trod laidOut (by kernel_rfl) (of_decide_eq_true (by kernel_rfl)) k2 bel lt2) (trodAll_cons_mk (Below.trod laidOut (by kernel_rfl) (of_decide_eq_true (by kernel_rfl)) k3 bel lt3) (trodAll_cons_mk (Below.trod laidOut (by kernel_rfl) (of_decide_eq_true (by kernel_rfl)) k4 bel lt4) trodAll_mk0))))), rfl, bel.frame _, fun h => by cases h⟩

theorem over : Rows.boardOnceRow.holds Try.pinned (OpenSpec.ofChange Rows.boardOnceSpec) :=
  OpenClaim.holds_of_wide 8 Try.f8 rfl rfl rfl rfl rfl rfl rfl ⟨rfl, rfl, rfl, rfl, rfl⟩ rfl rfl rfl rfl rfl (by kernel_rfl) Try.func8 (by kernel_rfl)
    (of_decide_eq_true (by kernel_rfl)) (by unfold Func.isWrapper; first | (rw [if_pos (by decide +kernel)]; kernel_rfl) | (rw [if_neg (by decide +kernel)]; exact ⟨rfl, rfl⟩))
    (fun os started H enc _ => lifted os started H enc)

/-- The statement. -/
theorem proved : Rows.BoardOnceSaid := over
#print axioms proved
end Go.Proofs.Ytpikfiegmnmbmaa.boardOnce
