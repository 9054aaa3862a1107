/-
  Contract of board.allCame.
-/
import Derived.Test.YtpikfiegmnmbmaaBoardMay
import Derived.Test.YtpikfiegmnmbmaaBoardCame
import Derived.Deep.QuietTactic
import Derived.BigQuiet
import Derived.Lib.QuietBelow
namespace Go.Proofs.Ytpikfiegmnmbmaa
set_option maxRecDepth 100000
open Go.ChangeShapes Go.WideShapes Go.ChangeAt Go.RowKit

set_option maxHeartbeats 8000000 in
set_option maxRecDepth 100000 in
theorem allCame_any (b : BdL) (vr : Value) (w : World) (h : RpsR w vr b.reps) (hin : ∀ r ∈ b.reps, inR b.workers r = true) :
    Calls Try.prog 30 #[.agg #[.int .i64 b.workers, .int .i64 b.epoch, .int .i64 b.step, vr]] w fun e w' => e = .returned (.bool (cameB b.reps)) ∧ Below w.heap.size w w' := by
  have HR : Hid (RpsR w vr b.reps) := h
  have HIN : Hid (∀ r ∈ b.reps, inR b.workers r = true) := hin
  clear hin
  obtain ⟨ra, rc, rfl⟩ := h.shape
  clear h
  obtain ⟨W0, hW0⟩ : ∃ W0, W0 = w.alloc (.cells #[.int .i64 b.workers, .int .i64 b.epoch, .int .i64 b.step, .slice ra b.reps.length rc] 24) := ⟨_, rfl⟩
  have Q0 : BX 24 W0 w.heap.size #[.int .i64 b.workers, .int .i64 b.epoch, .int .i64 b.step, .slice ra b.reps.length rc] := by rw [hW0]; exact BX.new _ _ _
  have B0 : Below w.heap.size w W0 := by rw [hW0]; exact below_alloc _ _
  have s0 : w.heap.size < W0.heap.size := Q0.lt
  have HK : Hid (∀ X, Below W0.heap.size W0 X → BX 24 X w.heap.size #[.int .i64 b.workers, .int .i64 b.epoch, .int .i64 b.step, .slice ra b.reps.length rc] ∧ Below w.heap.size w X ∧ RpsR X (.slice ra b.reps.length rc) b.reps) := fun X hX => by
    have hb := B0.trans (hX.mono (show w.heap.size ≤ W0.heap.size by omega))
    exact ⟨Q0.below hX s0, hb, HR.out.below hb (Nat.le_refl _)⟩
  have A0 : Hid (Below W0.heap.size W0 W0) := Below.refl _ _
  clear B0 HR
  obtain ⟨b0, b1, b2, b3⟩ := Q0.all4
  clear Q0
  go_enter Try.func30, Try.ntmps30
  go_upto_region 1 with fail
  rw [← hW0]
  clear hW0
  go_wp2_with fail
  go_loopw [10] (fun i wr => ∃ k : Nat, k ≤ b.reps.length ∧ i = .int .i64 k ∧ cameT b.reps k = true ∧ Below W0.heap.size W0 wr) (fun i _ => b.reps.length - (intOf i).toNat)
  case atStart => exact ⟨0, by omega, rfl, rfl, A0.out⟩
  case round =>
    obtain ⟨k, hk, rfl, hup, hbel⟩ := hrel
    have HU : Hid (cameT b.reps k = true) := hup
    have HB : Hid (Below W0.heap.size W0 wr) := hbel
    have hsr := hbel.size
    clear hup hbel b0 b1 b2 b3
    by_cases hlt : k < b.reps.length
    · obtain ⟨rb, off, cap', e1, hcl, hm, lt, hv⟩ := RpsR.at (HK.out _ HB.out).2.2 (by omega)
      unfold maxLen at hm
      injection e1 with e1 e2 e3
      subst e1 e3
      clear e2
      obtain ⟨x, hx⟩ := getX hlt
      obtain ⟨sa, sc, ga, gc, ⟨c0, c1, c2, c3, c4, c5, c6⟩, rs, rg⟩ := hv k x hx
      have HX : Hid (b.reps[k]? = some x) := hx
      clear hv hx
      have hV : Hid (Below W0.heap.size W0 (wr.alloc (.cells #[.int .i64 x.worker, .int .i64 x.epoch, .int .i64 x.step, .slice sa x.sent.length sc, .slice ga x.got.length gc, .int .i64 x.waking, .int .i64 x.opn] 32)) ∧ BX 32 (wr.alloc (.cells #[.int .i64 x.worker, .int .i64 x.epoch, .int .i64 x.step, .slice sa x.sent.length sc, .slice ga x.got.length gc, .int .i64 x.waking, .int .i64 x.opn] 32)) wr.heap.size #[.int .i64 x.worker, .int .i64 x.epoch, .int .i64 x.step, .slice sa x.sent.length sc, .slice ga x.got.length gc, .int .i64 x.waking, .int .i64 x.opn] ∧ InR (wr.alloc (.cells #[.int .i64 x.worker, .int .i64 x.epoch, .int .i64 x.step, .slice sa x.sent.length sc, .slice ga x.got.length gc, .int .i64 x.waking, .int .i64 x.opn] 32)) (.slice sa x.sent.length sc) x.sent ∧ wr.heap.size < (wr.alloc (.cells #[.int .i64 x.worker, .int .i64 x.epoch, .int .i64 x.step, .slice sa x.sent.length sc, .slice ga x.got.length gc, .int .i64 x.waking, .int .i64 x.opn] 32)).heap.size) := ⟨HB.out.alloc hsr _, BX.new _ _ _, rs.below (below_alloc _ _) (Nat.le_refl _), by simp⟩
      clear rs rg
      go_upto_region 4 with fail
      generalize wr.alloc (.cells #[.int .i64 x.worker, .int .i64 x.epoch, .int .i64 x.step, .slice sa x.sent.length sc, .slice ga x.got.length gc, .int .i64 x.waking, .int .i64 x.opn] 32) = V at *
      generalize wr.heap.size = q at *
      obtain ⟨bV, xV, sV, lV⟩ := hV.out
      obtain ⟨KB, KW, KR⟩ := HK.out _ bV
      have BV : Hid (Below W0.heap.size W0 V) := bV
      have XV : Hid (BX 32 V q #[.int .i64 x.worker, .int .i64 x.epoch, .int .i64 x.step, .slice sa x.sent.length sc, .slice ga x.got.length gc, .int .i64 x.waking, .int .i64 x.opn]) := xV
      have SV : Hid (InR V (.slice sa x.sent.length sc) x.sent) := sV
      have hsv := bV.size
      clear c0 c1 c2 c3 c4 c5 c6 hV bV xV sV
      obtain ⟨b0, b1, b2, b3⟩ := KB.all4
      clear KB KW KR
      go_wp2_with fail
      go_loopw [17] (fun i wr => ∃ j : Nat, j ≤ b.reps.length ∧ i = .int .i64 j ∧ (b.reps.take j).all (fitB x) = true ∧ Below V.heap.size V wr) (fun i _ => b.reps.length - (intOf i).toNat)
      case atStart => exact ⟨0, by omega, rfl, rfl, Below.refl _ _⟩
      case round =>
        obtain ⟨j, hj, rfl, hup, hbel⟩ := hrel
        have HU2 : Hid ((b.reps.take j).all (fitB x) = true) := hup
        have HB2 : Hid (Below V.heap.size V wr) := hbel
        have hsr2 := hbel.size
        have HBW : Hid (Below W0.heap.size W0 wr) := BV.out.trans (HB2.out.mono hsv)
        clear hup hbel b0 b1 b2 b3
        by_cases hlt2 : j < b.reps.length
        · obtain ⟨rb', off', cap', e1, _, _, lt2, hv⟩ := RpsR.at (HK.out _ HBW.out).2.2 (by omega)
          injection e1 with e1 e2 e3
          injection e1 with e1
          injection e1 with e4 e5
          subst e4 e5 e3
          clear e2
          obtain ⟨y, hy⟩ := getX hlt2
          obtain ⟨ta, tc, ua, uc, ⟨c0, c1, c2, c3, c4, c5, c6⟩, rs, rg⟩ := hv j y hy
          have HY : Hid (b.reps[j]? = some y) := hy
          clear hv hy
          have hV2 : Hid (Below V.heap.size V (wr.alloc (.cells #[.int .i64 y.worker, .int .i64 y.epoch, .int .i64 y.step, .slice ta y.sent.length tc, .slice ua y.got.length uc, .int .i64 y.waking, .int .i64 y.opn] 32)) ∧ BX 32 (wr.alloc (.cells #[.int .i64 y.worker, .int .i64 y.epoch, .int .i64 y.step, .slice ta y.sent.length tc, .slice ua y.got.length uc, .int .i64 y.waking, .int .i64 y.opn] 32)) wr.heap.size #[.int .i64 y.worker, .int .i64 y.epoch, .int .i64 y.step, .slice ta y.sent.length tc, .slice ua y.got.length uc, .int .i64 y.waking, .int .i64 y.opn] ∧ InR (wr.alloc (.cells #[.int .i64 y.worker, .int .i64 y.epoch, .int .i64 y.step, .slice ta y.sent.length tc, .slice ua y.got.length uc, .int .i64 y.waking, .int .i64 y.opn] 32)) (.slice ua y.got.length uc) y.got ∧ wr.heap.size < (wr.alloc (.cells #[.int .i64 y.worker, .int .i64 y.epoch, .int .i64 y.step, .slice ta y.sent.length tc, .slice ua y.got.length uc, .int .i64 y.waking, .int .i64 y.opn] 32)).heap.size) := ⟨HB2.out.alloc hsr2 _, BX.new _ _ _, rg.below (below_alloc _ _) (Nat.le_refl _), by simp⟩
          clear rs rg
          go_upto_region 7 with fail
          generalize wr.alloc (.cells #[.int .i64 y.worker, .int .i64 y.epoch, .int .i64 y.step, .slice ta y.sent.length tc, .slice ua y.got.length uc, .int .i64 y.waking, .int .i64 y.opn] 32) = V2 at *
          generalize wr.heap.size = q2 at *
          obtain ⟨bV2, yV, gV, lV2⟩ := hV2.out
          have BV2 : Hid (Below W0.heap.size W0 V2) := BV.out.trans (bV2.mono hsv)
          have B2 : Hid (Below V.heap.size V V2) := bV2
          have SV2 : InR V2 (.slice sa x.sent.length sc) x.sent := SV.out.below bV2 (Nat.le_refl _)
          have XV2 : BX 32 V2 q #[.int .i64 x.worker, .int .i64 x.epoch, .int .i64 x.step, .slice sa x.sent.length sc, .slice ga x.got.length gc, .int .i64 x.waking, .int .i64 x.opn] := XV.out.below bV2 lV
          clear c0 c1 c2 c3 c4 c5 c6
          obtain ⟨c0, _, _, c3, _, _, _⟩ := XV2.all7
          obtain ⟨d0, _, _, _, d4, _, _⟩ := yV.all7
          obtain ⟨⟨hx0, hx1⟩, hx2, hx3, _⟩ := inR_iff.1 (HIN.out x (List.mem_of_getElem? HX.out))
          obtain ⟨⟨hy0, hy1⟩, hy2, hy3, _⟩ := inR_iff.1 (HIN.out y (List.mem_of_getElem? HY.out))
          have hxl := (cntB_iff.1 hx2).1
          have hyl := (cntB_iff.1 hy3).1
          obtain ⟨kx, hkx⟩ : ∃ kx : Nat, x.worker = kx := ⟨x.worker.toNat, by omega⟩
          obtain ⟨ky, hky⟩ : ∃ ky : Nat, y.worker = ky := ⟨y.worker.toNat, by omega⟩
          have l1 : ky < x.sent.length := by omega
          have l2 : kx < y.got.length := by omega
          obtain ⟨sb, so, cs, e1, _, _, _, hvs⟩ := InR.at SV2 (by omega)
          injection e1 with e1 _ e3
          subst e1 e3
          obtain ⟨gb, go, cg, e1, _, _, _, hvg⟩ := InR.at gV (by omega)
          injection e1 with e1 _ e3
          subst e1 e3
          obtain ⟨a, ha⟩ := getX l1
          obtain ⟨a', ha'⟩ := getX l2
          have f1 := hvs ky a ha
          have f2 := hvg kx a' ha'
          have FT : Hid (fitB x y = (a == a')) := fitB_at hkx hky ha ha'
          rw [hkx] at c0
          rw [hky] at d0
          have p0 : (0 : Int) ≤ (kx : Int) := by omega
          have p1 : (kx : Int) < (y.got.length : Int) := by omega
          have p2 : (0 : Int) ≤ (ky : Int) := by omega
          have p3 : (ky : Int) < (x.sent.length : Int) := by omega
          clear hx0 hx1 hx2 hx3 hy0 hy1 hy2 hy3 hxl hyl hkx hky hvs hvg ha ha' SV2 XV2 yV gV bV2 hV2
          by_cases haa : a = a'
          case neg =>
            have tn : (a != a') = true := by simp [haa]
            have HA : Hid (cameB b.reps = false) := came_hit HX.out HY.out (by rw [FT.out]; simp [haa])
            clear haa
            go_quiet (fail)
            go_wp2_with fail
            go_ret
            exact ⟨ret_bool HA.out.symm, below_drewN (HK.out _ BV2.out).2.1 _⟩
          have HA : Hid ((b.reps.take (j + 1)).all (fitB x) = true) := fit_cut HY.out HU2.out (by rw [FT.out]; simp [haa])
          have tn : (a != a') = false := by simp [haa]
          clear haa
          go_quiet (fail)
          go_wp2_with fail
          go_roundw
          case rel => exact ⟨j + 1, by omega, by go_num, HA.out, below_drewN B2.out _⟩
          case measure => simp [intOf]; omega
        · have HA : Hid (cameT b.reps (k + 1) = true) := came_cut HX.out HU.out (by have e : j = b.reps.length := (by omega); have h1 := HU2.out; rw [e, List.take_length] at h1; exact h1)
          go_wp2_with fail
          go_roundw
          case rel => exact ⟨k + 1, by omega, by go_num, HA.out, HBW.out⟩
          case measure => simp [intOf]; omega
    · have HA : Hid (cameB b.reps = true) := came_all (by have e : k = b.reps.length := (by omega); have := HU.out; rwa [e] at this)
      go_wp2_with fail
      go_ret
      exact ⟨ret_bool HA.out.symm, (HK.out _ HB.out).2.1⟩
end Go.Proofs.Ytpikfiegmnmbmaa
