/-
  The law's sameReport and sameBoard of what reads alike.
-/
import Derived.Test.YtpikfiegmnmbmaaBoardStands
import Derived.Test.YtpikfiegmnmbmaaBoxFour
import Derived.Test.YtpikfiegmnmbmaaSameNums
import Derived.Test.YtpikfiegmnmbmaaQuietBox
namespace Go.Proofs.Ytpikfiegmnmbmaa
set_option maxRecDepth 100000
open Go.ChangeShapes Go.WideShapes Go.ChangeAt Go.RowKit Go.Sort

set_option maxHeartbeats 4000000 in
set_option maxRecDepth 100000 in
theorem sameReport_yes (r : RpL) (vs vg us ug : Value) (w : World) (h1 : InR w vs r.sent) (h2 : InR w vg r.got) (h3 : InR w us r.sent) (h4 : InR w ug r.got) :
    Calls Try.prog 21 #[.agg #[.int .i64 r.worker, .int .i64 r.epoch, .int .i64 r.step, vs, vg, .int .i64 r.waking, .int .i64 r.opn], .agg #[.int .i64 r.worker, .int .i64 r.epoch, .int .i64 r.step, us, ug, .int .i64 r.waking, .int .i64 r.opn]] w fun e w' => e = .returned (.bool true) ∧ Below w.heap.size w w' := by
  have H1 : Hid (InR w vs r.sent ∧ InR w vg r.got ∧ InR w us r.sent ∧ InR w ug r.got) := ⟨h1, h2, h3, h4⟩
  obtain ⟨sa, sc, rfl⟩ := h1.shape
  obtain ⟨ga, gc, rfl⟩ := h2.shape
  obtain ⟨ta, tc, rfl⟩ := h3.shape
  obtain ⟨ua, uc, rfl⟩ := h4.shape
  clear h1 h2 h3 h4
  obtain ⟨W0, hW0⟩ : ∃ W0, W0 = (w.alloc (.cells #[.int .i64 r.worker, .int .i64 r.epoch, .int .i64 r.step, .slice sa r.sent.length sc, .slice ga r.got.length gc, .int .i64 r.waking, .int .i64 r.opn] 32)).alloc (.cells #[.int .i64 r.worker, .int .i64 r.epoch, .int .i64 r.step, .slice ta r.sent.length tc, .slice ua r.got.length uc, .int .i64 r.waking, .int .i64 r.opn] 32) := ⟨_, rfl⟩
  obtain ⟨Q0, M0, B0, s1, s2⟩ := boxes2 w #[.int .i64 r.worker, .int .i64 r.epoch, .int .i64 r.step, .slice sa r.sent.length sc, .slice ga r.got.length gc, .int .i64 r.waking, .int .i64 r.opn] #[.int .i64 r.worker, .int .i64 r.epoch, .int .i64 r.step, .slice ta r.sent.length tc, .slice ua r.got.length uc, .int .i64 r.waking, .int .i64 r.opn] 32 32 W0 hW0
  have HK : Hid (∀ X, Below W0.heap.size W0 X → BX 32 X w.heap.size #[.int .i64 r.worker, .int .i64 r.epoch, .int .i64 r.step, .slice sa r.sent.length sc, .slice ga r.got.length gc, .int .i64 r.waking, .int .i64 r.opn] ∧ BX 32 X (w.heap.size + 1) #[.int .i64 r.worker, .int .i64 r.epoch, .int .i64 r.step, .slice ta r.sent.length tc, .slice ua r.got.length uc, .int .i64 r.waking, .int .i64 r.opn] ∧ Below w.heap.size w X) := fun X hX => ⟨Q0.below hX (by omega), M0.below hX (by omega), B0.trans (hX.mono (show w.heap.size ≤ W0.heap.size by omega))⟩
  have A0 : Hid (Below W0.heap.size W0 W0) := Below.refl _ _
  obtain ⟨c0, c1, c2, c3, c4, c5, c6⟩ := Q0.all7
  obtain ⟨d0, d1, d2, d3, d4, d5, d6⟩ := M0.all7
  clear Q0 M0 B0
  have CS : Hid (∀ X, Below W0.heap.size W0 X → Calls Try.prog 31 #[.slice sa r.sent.length sc, .slice ta r.sent.length tc] X fun e w' => e = .returned (.bool true) ∧ Below X.heap.size X w') := fun X hX => sameInts_yes _ _ r.sent X (H1.out.1.below (HK.out _ hX).2.2 (Nat.le_refl _)) (H1.out.2.2.1.below (HK.out _ hX).2.2 (Nat.le_refl _))
  have CG : Hid (∀ X, Below W0.heap.size W0 X → Calls Try.prog 31 #[.slice ga r.got.length gc, .slice ua r.got.length uc] X fun e w' => e = .returned (.bool true) ∧ Below X.heap.size X w') := fun X hX => sameInts_yes _ _ r.got X (H1.out.2.1.below (HK.out _ hX).2.2 (Nat.le_refl _)) (H1.out.2.2.2.below (HK.out _ hX).2.2 (Nat.le_refl _))
  have t0 : (r.worker == r.worker) = true := by simp
  have t1 : (r.epoch == r.epoch) = true := by simp
  have t2 : (r.step == r.step) = true := by simp
  have t3 : (r.waking == r.waking) = true := by simp
  have t4 : (r.opn == r.opn) = true := by simp
  go_enter Try.func21, Try.ntmps21
  go_upto_region 1 with fail
  rw [← hW0]
  clear hW0
  go_wp2_with fail
  refine (CS.out _ A0.out).mono ?_
  rintro e w1 ⟨rfl, hb1⟩
  have A1 : Hid (Below W0.heap.size W0 w1) := hb1
  clear hb1 c0 c1 c2 c3 c4 c5 c6 d0 d1 d2 d3 d4 d5 d6
  obtain ⟨c0, c1, c2, c3, c4, c5, c6⟩ := (HK.out _ A1.out).1.all7
  obtain ⟨d0, d1, d2, d3, d4, d5, d6⟩ := (HK.out _ A1.out).2.1.all7
  go_wp2_with fail
  refine (CG.out _ A1.out).mono ?_
  rintro e w2 ⟨rfl, hb2⟩
  have A2 : Hid (Below W0.heap.size W0 w2) := A1.out.trans (hb2.mono A1.out.size)
  clear hb2 c0 c1 c2 c3 c4 c5 c6 d0 d1 d2 d3 d4 d5 d6
  go_wp2_with fail
  go_ret
  exact ⟨rfl, (HK.out _ A2.out).2.2⟩

set_option maxHeartbeats 4000000 in
set_option maxRecDepth 100000 in
theorem sameBoard_yes (b : BdL) (vr ur : Value) (w : World) (h1 : RpsR w vr b.reps) (h2 : RpsR w ur b.reps) :
    Calls Try.prog 11 #[.agg #[.int .i64 b.workers, .int .i64 b.epoch, .int .i64 b.step, vr], .agg #[.int .i64 b.workers, .int .i64 b.epoch, .int .i64 b.step, ur]] w fun e w' => e = .returned (.bool true) ∧ Below w.heap.size w w' := by
  have H1 : Hid (RpsR w vr b.reps ∧ RpsR w ur b.reps) := ⟨h1, h2⟩
  have hml : b.reps.length ≤ 9223372036854775807 := by obtain ⟨gs, h1, ⟨_, c, e, h2, h3, _⟩, _⟩ := h1; rw [← h1, List.length_map]; unfold maxLen at h3; omega
  obtain ⟨ra, rc, rfl⟩ := h1.shape
  obtain ⟨pa, pc, rfl⟩ := h2.shape
  clear h1 h2
  obtain ⟨W0, hW0⟩ : ∃ W0, W0 = (w.alloc (.cells #[.int .i64 b.workers, .int .i64 b.epoch, .int .i64 b.step, .slice ra b.reps.length rc] 24)).alloc (.cells #[.int .i64 b.workers, .int .i64 b.epoch, .int .i64 b.step, .slice pa b.reps.length pc] 24) := ⟨_, rfl⟩
  obtain ⟨Q0, M0, B0, s1, s2⟩ := boxes2 w #[.int .i64 b.workers, .int .i64 b.epoch, .int .i64 b.step, .slice ra b.reps.length rc] #[.int .i64 b.workers, .int .i64 b.epoch, .int .i64 b.step, .slice pa b.reps.length pc] 24 24 W0 hW0
  have HK : Hid (∀ X, Below W0.heap.size W0 X → BX 24 X w.heap.size #[.int .i64 b.workers, .int .i64 b.epoch, .int .i64 b.step, .slice ra b.reps.length rc] ∧ BX 24 X (w.heap.size + 1) #[.int .i64 b.workers, .int .i64 b.epoch, .int .i64 b.step, .slice pa b.reps.length pc] ∧ Below w.heap.size w X) := fun X hX => ⟨Q0.below hX (by omega), M0.below hX (by omega), B0.trans (hX.mono (show w.heap.size ≤ W0.heap.size by omega))⟩
  have A0 : Hid (Below W0.heap.size W0 W0) := Below.refl _ _
  obtain ⟨c0, c1, c2, c3⟩ := Q0.all4
  obtain ⟨d0, d1, d2, d3⟩ := M0.all4
  clear Q0 M0 B0
  have t0 : (b.workers != b.workers) = false := by simp
  have t1 : (b.epoch != b.epoch) = false := by simp
  have t2 : (b.step != b.step) = false := by simp
  have t3 : ((b.reps.length : Int) != (b.reps.length : Int)) = false := by simp
  go_enter Try.func11, Try.ntmps11
  go_upto_region 1 with fail
  rw [← hW0]
  clear hW0
  go_wp2_with fail
  clear t0 t1 t2 t3
  go_loopw [5] (fun i wr => ∃ k : Nat, k ≤ b.reps.length ∧ i = .int .i64 k ∧ Below W0.heap.size W0 wr) (fun i _ => b.reps.length - (intOf i).toNat)
  case atStart => exact ⟨0, by omega, rfl, A0.out⟩
  case round =>
    obtain ⟨k, hk, rfl, hbel⟩ := hrel
    have HB : Hid (Below W0.heap.size W0 wr) := hbel
    have hsr := hbel.size
    clear hbel c0 c1 c2 c3 d0 d1 d2 d3
    obtain ⟨b0, b1, b2, b3⟩ := (HK.out _ HB.out).1.all4
    obtain ⟨e0, e1, e2, e3⟩ := (HK.out _ HB.out).2.1.all4
    by_cases hlt : k < b.reps.length
    · obtain ⟨rb, off, cap', f1, hcl, hm, lt, hv⟩ := RpsR.at (H1.out.1.below (HK.out _ HB.out).2.2 (Nat.le_refl _)) (by omega)
      obtain ⟨rb2, off2, cap2, f2, hcl2, hm2, lt2, hv2⟩ := RpsR.at (H1.out.2.below (HK.out _ HB.out).2.2 (Nat.le_refl _)) (by omega)
      injection f1 with f1 _ f3
      subst f1 f3
      injection f2 with f2 _ f4
      subst f2 f4
      unfold maxLen at hm hm2
      obtain ⟨x, hx⟩ := getX hlt
      obtain ⟨sa, sc, ga, gc, ⟨c0, c1, c2, c3, c4, c5, c6⟩, rs, rg⟩ := hv k x hx
      obtain ⟨ta, tc, ua, uc, ⟨d0, d1, d2, d3, d4, d5, d6⟩, ts, tg⟩ := hv2 k x hx
      clear hv hv2 hx
      have g0 := cell_regrown c0
      have g1 := cell_regrown c1
      have g2 := cell_regrown c2
      have g3 := cell_regrown c3
      have g4 := cell_regrown c4
      have g5 := cell_regrown c5
      have g6 := cell_regrown c6
      have g7 := cell_regrown d0
      have g8 := cell_regrown d1
      have g9 := cell_regrown d2
      have g10 := cell_regrown d3
      have g11 := cell_regrown d4
      have g12 := cell_regrown d5
      have g13 := cell_regrown d6
      have g14 := cell_regrown b0
      have g15 := cell_regrown b1
      have g16 := cell_regrown b2
      have g17 := cell_regrown b3
      have g18 := cell_regrown e0
      have g19 := cell_regrown e1
      have g20 := cell_regrown e2
      have g21 := cell_regrown e3
      have ES : ∀ d os, Calls Try.prog 21 #[.agg #[.int .i64 x.worker, .int .i64 x.epoch, .int .i64 x.step, .slice sa x.sent.length sc, .slice ga x.got.length gc, .int .i64 x.waking, .int .i64 x.opn], .agg #[.int .i64 x.worker, .int .i64 x.epoch, .int .i64 x.step, .slice ta x.sent.length tc, .slice ua x.got.length uc, .int .i64 x.waking, .int .i64 x.opn]] (grow (redrawn wr d) os) fun e w'' => e = .returned (.bool true) ∧ ∃ p : Regrown, w'' = grow (redrawn wr p.d) p.os := fun d os => Calls.regrown_of (sameReport_yes x _ _ _ _ _ (rs.below (below_regrown wr d os) (Nat.le_refl _)) (rg.below (below_regrown wr d os) (Nat.le_refl _)) (ts.below (below_regrown wr d os) (Nat.le_refl _)) (tg.below (below_regrown wr d os) (Nat.le_refl _)))
      clear rs rg ts tg
      have p0 : (0 : Int) ≤ (k : Int) := by omega
      have p1 : (k : Int) < (b.reps.length : Int) := by omega
      go_upto_region 6 with fail
      clear c0 c1 c2 c3 c4 c5 c6 d0 d1 d2 d3 d4 d5 d6 b0 b1 b2 b3 e0 e1 e2 e3
      refine wp_region_quiet_below (by kernel_rfl) (by kernel_rfl) (QW.out ?_)
      repeat (refine QW.step (fun K hK => ?_); go_simp; first | (refine hK _ ?_; clear hK K) | (apply Exists.intro; refine ⟨fun _ => ?_, hK _ ?_⟩; first | (go_at_call 21; exact ES _ _); clear hK K))
      refine QW.nil ?_
      intro _ hw'
      obtain ⟨⟨dq, osq⟩, hw''⟩ := hw'
      have HB9 : Hid (Below wr.heap.size wr (grow (redrawn wr dq) osq)) := below_regrown wr dq osq
      subst hw''
      generalize grow (redrawn wr dq) osq = W9 at HB9 ⊢
      clear g0 g1 g2 g3 g4 g5 g6 g7 g8 g9 g10 g11 g12 g13 g14 g15 g16 g17 g18 g19 g20 g21 ES
      go_wp2_with fail
      go_roundw
      case rel => exact ⟨k + 1, by omega, by go_num, HB.out.trans (HB9.out.mono hsr)⟩
      case measure => simp [intOf]; omega
    · go_wp2_with fail
      go_ret
      exact ⟨rfl, (HK.out _ HB.out).2.2⟩
end Go.Proofs.Ytpikfiegmnmbmaa
