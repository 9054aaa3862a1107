/-
  Contract of the document's BoardReady.
-/
import Derived.Test.YtpikfiegmnmbmaaRefBoardMay
import Derived.Test.YtpikfiegmnmbmaaBoardReady
namespace Go.Proofs.Ytpikfiegmnmbmaa
set_option maxRecDepth 100000
open Go.ChangeShapes Go.WideShapes Go.ChangeAt Go.RowKit

theorem boardMay_is {b : BdL} {t : Bool} (ht : mayBd b = t) (vr : Value) (w : World) (h : RpsR w vr b.reps) :
    Calls Try.prog 27 #[.agg #[.int .i64 b.workers, .int .i64 b.epoch, .int .i64 b.step, vr]] w fun e w' => e = .returned (.bool t) ∧ Below w.heap.size w w' := by
  have := boardMay_any b vr w h
  rwa [ht] at this

set_option maxHeartbeats 8000000 in
set_option maxRecDepth 100000 in
theorem boardReady_any (b : BdL) (vr : Value) (w : World) (h : RpsR w vr b.reps) :
    Calls Try.prog 16 #[.agg #[.int .i64 b.workers, .int .i64 b.epoch, .int .i64 b.step, vr]] w (RdyP w b) := by
  have HR : Hid (RpsR w vr b.reps) := h
  obtain ⟨ra, rc, rfl⟩ := h.shape
  have hml : b.reps.length ≤ 9223372036854775807 := by obtain ⟨gs, h1, ⟨_, c, e, h2, h3, _⟩, _⟩ := h; rw [← h1, List.length_map]; unfold maxLen at h3; omega
  clear h
  obtain ⟨W0, hW0⟩ : ∃ W0, W0 = w.alloc (.cells #[.int .i64 b.workers, .int .i64 b.epoch, .int .i64 b.step, .slice ra b.reps.length rc] 24) := ⟨_, rfl⟩
  have Q0 : BX 24 W0 w.heap.size #[.int .i64 b.workers, .int .i64 b.epoch, .int .i64 b.step, .slice ra b.reps.length rc] := by rw [hW0]; exact BX.new _ _ _
  have B0 : Below w.heap.size w W0 := by rw [hW0]; exact below_alloc _ _
  have s0 : w.heap.size < W0.heap.size := Q0.lt
  have HK : Hid (∀ X, Below W0.heap.size W0 X → BX 24 X w.heap.size #[.int .i64 b.workers, .int .i64 b.epoch, .int .i64 b.step, .slice ra b.reps.length rc] ∧ Below w.heap.size w X ∧ RpsR X (.slice ra b.reps.length rc) b.reps) := fun X hX => by
    have hb := B0.trans (hX.mono (show w.heap.size ≤ W0.heap.size by omega))
    exact ⟨Q0.below hX s0, hb, HR.out.below hb (Nat.le_refl _)⟩
  have A0 : Hid (Below W0.heap.size W0 W0) := Below.refl _ _
  clear B0 HR
  obtain ⟨b0, b1, b2, b3⟩ := Q0.all4
  clear Q0
  have HN : Hid (mayBd b = false → ∀ w', Below w.heap.size w w' → RdyP w b (.returned (.tuple #[.int .i64 0, .int .i64 0, .int .i64 9])) w') := fun h w' hb => RdyP.no (rdE_no h) (by decide) hb
  have HT : Hid (mayBd b = true → ¬ (b.workers ≤ (b.reps.length : Int) ∧ cameB b.reps = true) → ∀ w', Below w.heap.size w w' → RdyP w b (.returned (.tuple #[.int .i64 0, .int .i64 0, .int .i64 12])) w') := fun h h2 w' hb => RdyP.no (rdE_wait h h2) (by decide) hb
  have HY : Hid (mayBd b = true → (b.workers ≤ (b.reps.length : Int) ∧ cameB b.reps = true) → ∀ w', Below w.heap.size w w' → RdyP w b (.returned (.tuple #[.int .i64 (sumR RpL.waking b.reps), .int .i64 (sumR RpL.opn b.reps), .int .i64 0])) w') := fun h h2 w' hb => RdyP.yes (rdE_yes h h2) hb
  generalize RdyP w b = P at *
  cases hm : mayBd b
  case false =>
    have HE : Hid (∀ w', Below w.heap.size w w' → P (.returned (.tuple #[.int .i64 0, .int .i64 0, .int .i64 9])) w') := HN.out hm
    have CM : Hid (∀ X, RpsR X (.slice ra b.reps.length rc) b.reps → Calls Try.prog 27 #[.agg #[.int .i64 b.workers, .int .i64 b.epoch, .int .i64 b.step, .slice ra b.reps.length rc]] X fun e w' => e = .returned (.bool false) ∧ Below X.heap.size X w') := fun X h => boardMay_is hm _ X h
    clear HN HT HY hm
    go_enter Try.func16, Try.ntmps16
    go_upto_region 1 with fail
    rw [← hW0]
    clear hW0
    go_wp2_with fail
    refine (CM.out _ (HK.out _ A0.out).2.2).mono ?_
    rintro e w1 ⟨rfl, hb1⟩
    have A1 : Hid (Below W0.heap.size W0 w1) := hb1
    clear hb1 b0 b1 b2 b3
    obtain ⟨b0, b1, b2, b3⟩ := (HK.out _ A1.out).1.all4
    go_wp2_with fail
    exact bodyPost_ret (v := .tuple #[.int .i64 0, .int .i64 0, .int .i64 9]) (by simp [results, Try.results16, go_sem]) rfl (HE.out _ (HK.out _ A1.out).2.1)
  have CM : Hid (∀ X, RpsR X (.slice ra b.reps.length rc) b.reps → Calls Try.prog 27 #[.agg #[.int .i64 b.workers, .int .i64 b.epoch, .int .i64 b.step, .slice ra b.reps.length rc]] X fun e w' => e = .returned (.bool true) ∧ Below X.heap.size X w') := fun X h => boardMay_is hm _ X h
  have HIN : Hid (∀ r ∈ b.reps, inR b.workers r = true) := may_all hm
  replace HT : Hid (¬ (b.workers ≤ (b.reps.length : Int) ∧ cameB b.reps = true) → ∀ w', Below w.heap.size w w' → P (.returned (.tuple #[.int .i64 0, .int .i64 0, .int .i64 12])) w') := HT.out hm
  replace HY : Hid ((b.workers ≤ (b.reps.length : Int) ∧ cameB b.reps = true) → ∀ w', Below w.heap.size w w' → P (.returned (.tuple #[.int .i64 (sumR RpL.waking b.reps), .int .i64 (sumR RpL.opn b.reps), .int .i64 0])) w') := HY.out hm
  clear HN hm
  by_cases hw : (b.reps.length : Int) < b.workers
  · have HE : Hid (∀ w', Below w.heap.size w w' → P (.returned (.tuple #[.int .i64 0, .int .i64 0, .int .i64 12])) w') := HT.out (fun h => by omega)
    clear HT HY
    go_enter Try.func16, Try.ntmps16
    go_upto_region 1 with fail
    rw [← hW0]
    clear hW0
    go_wp2_with fail
    refine (CM.out _ (HK.out _ A0.out).2.2).mono ?_
    rintro e w1 ⟨rfl, hb1⟩
    have A1 : Hid (Below W0.heap.size W0 w1) := hb1
    clear hb1 b0 b1 b2 b3
    obtain ⟨b0, b1, b2, b3⟩ := (HK.out _ A1.out).1.all4
    go_wp2_with fail
    exact bodyPost_ret (v := .tuple #[.int .i64 0, .int .i64 0, .int .i64 12]) (by simp [results, Try.results16, go_sem]) rfl (HE.out _ (HK.out _ A1.out).2.1)
  have HE : Hid (cameB b.reps = false → ∀ w', Below w.heap.size w w' → P (.returned (.tuple #[.int .i64 0, .int .i64 0, .int .i64 12])) w') := fun h => HT.out (fun g => by rw [h] at g; cases g.2)
  have HF : Hid (cameB b.reps = true → ∀ w', Below w.heap.size w w' → P (.returned (.tuple #[.int .i64 (sumR RpL.waking b.reps), .int .i64 (sumR RpL.opn b.reps), .int .i64 0])) w') := fun h => HY.out ⟨by omega, h⟩
  clear HT HY
  go_enter Try.func16, Try.ntmps16
  go_upto_region 1 with fail
  rw [← hW0]
  clear hW0
  go_wp2_with fail
  refine (CM.out _ (HK.out _ A0.out).2.2).mono ?_
  rintro e w1 ⟨rfl, hb1⟩
  have A1 : Hid (Below W0.heap.size W0 w1) := hb1
  clear hb1 b0 b1 b2 b3
  obtain ⟨b0, b1, b2, b3⟩ := (HK.out _ A1.out).1.all4
  go_wp2_with fail
  go_loopw [5, 6, 7] (fun a c i wr => ∃ k : Nat, k ≤ b.reps.length ∧ i = .int .i64 k ∧ a = .int .i64 (sumR RpL.waking (b.reps.take k)) ∧ c = .int .i64 (sumR RpL.opn (b.reps.take k)) ∧ cameT b.reps k = true ∧ Below W0.heap.size W0 wr) (fun _ _ i _ => b.reps.length - (intOf i).toNat)
  case atStart => exact ⟨0, by omega, rfl, rfl, rfl, rfl, A1.out⟩
  case round =>
    obtain ⟨k, hk, rfl, rfl, rfl, hup, hbel⟩ := hrel
    have HU : Hid (cameT b.reps k = true) := hup
    have HB : Hid (Below W0.heap.size W0 wr) := hbel
    have hsr := hbel.size
    clear hup hbel b0 b1 b2 b3
    obtain ⟨b0, b1, b2, b3⟩ := (HK.out _ HB.out).1.all4
    by_cases hlt : k < b.reps.length
    · obtain ⟨rb, off, cap', e1, hcl, hm, lt, hv⟩ := RpsR.at (HK.out _ HB.out).2.2 (by omega)
      unfold maxLen at hm
      injection e1 with e1 e2 e3
      subst e1 e3
      clear e2
      obtain ⟨x, hx⟩ := getX hlt
      obtain ⟨sa, sc, ga, gc, ⟨c0, c1, c2, c3, c4, c5, c6⟩, rs, rg⟩ := hv k x hx
      have HX : Hid (b.reps[k]? = some x) := hx
      have S1 : Hid (sumR RpL.waking (b.reps.take (k + 1)) = IntKind.i64.wrap (sumR RpL.waking (b.reps.take k) + x.waking)) := sumR_cut hx
      have S2 : Hid (sumR RpL.opn (b.reps.take (k + 1)) = IntKind.i64.wrap (sumR RpL.opn (b.reps.take k) + x.opn)) := sumR_cut hx
      generalize sumR RpL.waking (b.reps.take k) = A at *
      generalize sumR RpL.opn (b.reps.take k) = C at *
      clear hv hx
      have hV : Hid (Below W0.heap.size W0 (wr.alloc (.cells #[.int .i64 x.worker, .int .i64 x.epoch, .int .i64 x.step, .slice sa x.sent.length sc, .slice ga x.got.length gc, .int .i64 x.waking, .int .i64 x.opn] 32)) ∧ BX 32 (wr.alloc (.cells #[.int .i64 x.worker, .int .i64 x.epoch, .int .i64 x.step, .slice sa x.sent.length sc, .slice ga x.got.length gc, .int .i64 x.waking, .int .i64 x.opn] 32)) wr.heap.size #[.int .i64 x.worker, .int .i64 x.epoch, .int .i64 x.step, .slice sa x.sent.length sc, .slice ga x.got.length gc, .int .i64 x.waking, .int .i64 x.opn] ∧ InR (wr.alloc (.cells #[.int .i64 x.worker, .int .i64 x.epoch, .int .i64 x.step, .slice sa x.sent.length sc, .slice ga x.got.length gc, .int .i64 x.waking, .int .i64 x.opn] 32)) (.slice sa x.sent.length sc) x.sent ∧ wr.heap.size < (wr.alloc (.cells #[.int .i64 x.worker, .int .i64 x.epoch, .int .i64 x.step, .slice sa x.sent.length sc, .slice ga x.got.length gc, .int .i64 x.waking, .int .i64 x.opn] 32)).heap.size) := ⟨HB.out.alloc hsr _, BX.new _ _ _, rs.below (below_alloc _ _) (Nat.le_refl _), by simp⟩
      clear rs rg
      go_upto_region 11 with fail
      generalize wr.alloc (.cells #[.int .i64 x.worker, .int .i64 x.epoch, .int .i64 x.step, .slice sa x.sent.length sc, .slice ga x.got.length gc, .int .i64 x.waking, .int .i64 x.opn] 32) = V at *
      generalize wr.heap.size = q at *
      obtain ⟨bV, xV, sV, lV⟩ := hV.out
      have BV : Hid (Below W0.heap.size W0 V) := bV
      have XV : Hid (BX 32 V q #[.int .i64 x.worker, .int .i64 x.epoch, .int .i64 x.step, .slice sa x.sent.length sc, .slice ga x.got.length gc, .int .i64 x.waking, .int .i64 x.opn]) := xV
      have SV : Hid (InR V (.slice sa x.sent.length sc) x.sent) := sV
      have hsv := bV.size
      clear c0 c1 c2 c3 c4 c5 c6 hV xV sV b0 b1 b2 b3
      obtain ⟨b0, b1, b2, b3⟩ := (HK.out _ bV).1.all4
      clear bV
      go_wp2_with fail
      go_loopw [9] (fun i wr => ∃ j : Nat, j ≤ b.reps.length ∧ i = .int .i64 j ∧ (b.reps.take j).all (fitB x) = true ∧ Below V.heap.size V wr) (fun i _ => b.reps.length - (intOf i).toNat)
      case atStart => exact ⟨0, by omega, rfl, rfl, Below.refl _ _⟩
      case round =>
        obtain ⟨j, hj, rfl, hup, hbel⟩ := hrel
        have HU2 : Hid ((b.reps.take j).all (fitB x) = true) := hup
        have HB2 : Hid (Below V.heap.size V wr) := hbel
        have hsr2 := hbel.size
        have HBW : Hid (Below W0.heap.size W0 wr) := BV.out.trans (HB2.out.mono hsv)
        clear hup hbel b0 b1 b2 b3
        obtain ⟨b0, b1, b2, b3⟩ := (HK.out _ HBW.out).1.all4
        by_cases hlt2 : j < b.reps.length
        · obtain ⟨rb', off', cap', e1, _, _, lt2, hv⟩ := RpsR.at (HK.out _ HBW.out).2.2 (by omega)
          injection e1 with e1 e2 e3
          injection e1 with e1
          injection e1 with e4 e5
          subst e4 e5 e3
          clear e2
          obtain ⟨y, hy⟩ := getX hlt2
          obtain ⟨ta, tc, ua, uc, ⟨c0, c1, c2, c3, c4, c5, c6⟩, rs, rg⟩ := hv j y hy
          have HY : Hid (b.reps[j]? = some y) := hy
          clear hv hy
          have hV2 : Hid (Below V.heap.size V (wr.alloc (.cells #[.int .i64 y.worker, .int .i64 y.epoch, .int .i64 y.step, .slice ta y.sent.length tc, .slice ua y.got.length uc, .int .i64 y.waking, .int .i64 y.opn] 32)) ∧ BX 32 (wr.alloc (.cells #[.int .i64 y.worker, .int .i64 y.epoch, .int .i64 y.step, .slice ta y.sent.length tc, .slice ua y.got.length uc, .int .i64 y.waking, .int .i64 y.opn] 32)) wr.heap.size #[.int .i64 y.worker, .int .i64 y.epoch, .int .i64 y.step, .slice ta y.sent.length tc, .slice ua y.got.length uc, .int .i64 y.waking, .int .i64 y.opn] ∧ InR (wr.alloc (.cells #[.int .i64 y.worker, .int .i64 y.epoch, .int .i64 y.step, .slice ta y.sent.length tc, .slice ua y.got.length uc, .int .i64 y.waking, .int .i64 y.opn] 32)) (.slice ua y.got.length uc) y.got ∧ wr.heap.size < (wr.alloc (.cells #[.int .i64 y.worker, .int .i64 y.epoch, .int .i64 y.step, .slice ta y.sent.length tc, .slice ua y.got.length uc, .int .i64 y.waking, .int .i64 y.opn] 32)).heap.size) := ⟨HB2.out.alloc hsr2 _, BX.new _ _ _, rg.below (below_alloc _ _) (Nat.le_refl _), by simp⟩
          clear rs rg
          go_upto_region 15 with fail
          generalize wr.alloc (.cells #[.int .i64 y.worker, .int .i64 y.epoch, .int .i64 y.step, .slice ta y.sent.length tc, .slice ua y.got.length uc, .int .i64 y.waking, .int .i64 y.opn] 32) = V2 at *
          generalize wr.heap.size = q2 at *
          obtain ⟨bV2, yV, gV, lV2⟩ := hV2.out
          have BV2 : Hid (Below W0.heap.size W0 V2) := BV.out.trans (bV2.mono hsv)
          have B2 : Hid (Below V.heap.size V V2) := bV2
          have SV2 : InR V2 (.slice sa x.sent.length sc) x.sent := SV.out.below bV2 (Nat.le_refl _)
          have XV2 : BX 32 V2 q #[.int .i64 x.worker, .int .i64 x.epoch, .int .i64 x.step, .slice sa x.sent.length sc, .slice ga x.got.length gc, .int .i64 x.waking, .int .i64 x.opn] := XV.out.below bV2 lV
          clear c0 c1 c2 c3 c4 c5 c6
          obtain ⟨c0, _, _, c3, _, _, _⟩ := XV2.all7
          obtain ⟨d0, _, _, _, d4, _, _⟩ := yV.all7
          obtain ⟨⟨hx0, hx1⟩, hx2, hx3, _⟩ := inR_iff.1 (HIN.out x (List.mem_of_getElem? HX.out))
          obtain ⟨⟨hy0, hy1⟩, hy2, hy3, _⟩ := inR_iff.1 (HIN.out y (List.mem_of_getElem? HY.out))
          have hxl := (cntB_iff.1 hx2).1
          have hyl := (cntB_iff.1 hy3).1
          obtain ⟨kx, hkx⟩ : ∃ kx : Nat, x.worker = kx := ⟨x.worker.toNat, by omega⟩
          obtain ⟨ky, hky⟩ : ∃ ky : Nat, y.worker = ky := ⟨y.worker.toNat, by omega⟩
          have l1 : ky < x.sent.length := by omega
          have l2 : kx < y.got.length := by omega
          obtain ⟨sb, so, cs, e1, _, _, _, hvs⟩ := InR.at SV2 (by omega)
          injection e1 with e1 _ e3
          subst e1 e3
          obtain ⟨gb, go, cg, e1, _, _, _, hvg⟩ := InR.at gV (by omega)
          injection e1 with e1 _ e3
          subst e1 e3
          obtain ⟨a, ha⟩ := getX l1
          obtain ⟨a', ha'⟩ := getX l2
          have f1 := hvs ky a ha
          have f2 := hvg kx a' ha'
          have FT : Hid (fitB x y = (a == a')) := fitB_at hkx hky ha ha'
          rw [hkx] at c0
          rw [hky] at d0
          have p0 : (0 : Int) ≤ (kx : Int) := by omega
          have p1 : (kx : Int) < (y.got.length : Int) := by omega
          have p2 : (0 : Int) ≤ (ky : Int) := by omega
          have p3 : (ky : Int) < (x.sent.length : Int) := by omega
          clear hx0 hx1 hx2 hx3 hy0 hy1 hy2 hy3 hxl hyl hkx hky hvs hvg ha ha' SV2 XV2 yV gV bV2 hV2
          by_cases haa : a = a'
          case neg =>
            have tn : (a != a') = true := by simp [haa]
            have HA : Hid (∀ w', Below w.heap.size w w' → P (.returned (.tuple #[.int .i64 0, .int .i64 0, .int .i64 12])) w') := HE.out (came_hit HX.out HY.out (by rw [FT.out]; simp [haa]))
            clear haa b0 b1 b2 b3
            go_quiet (fail)
            go_wp2_with fail
            exact bodyPost_ret (v := .tuple #[.int .i64 0, .int .i64 0, .int .i64 12]) (by simp [results, Try.results16, go_sem]) rfl (HA.out _ (below_drewN (HK.out _ BV2.out).2.1 _))
          have HA : Hid ((b.reps.take (j + 1)).all (fitB x) = true) := fit_cut HY.out HU2.out (by rw [FT.out]; simp [haa])
          have tn : (a != a') = false := by simp [haa]
          clear haa b0 b1 b2 b3
          go_quiet (fail)
          go_wp2_with fail
          go_roundw
          case rel => exact ⟨j + 1, by omega, by go_num, HA.out, below_drewN B2.out _⟩
          case measure => simp [intOf]; omega
        · have HA : Hid (cameT b.reps (k + 1) = true) := came_cut HX.out HU.out (by have e : j = b.reps.length := (by omega); have h1 := HU2.out; rw [e, List.take_length] at h1; exact h1)
          obtain ⟨c0, c1, c2, c3, c4, c5, c6⟩ := (XV.out.below HB2.out lV).all7
          go_wp2_with fail
          go_roundw
          case rel => exact ⟨k + 1, by omega, by go_num, by rw [S1.out, IntKind.wrap_i64]; unfold wrap64; rfl, by rw [S2.out, IntKind.wrap_i64]; unfold wrap64; rfl, HA.out, HBW.out⟩
          case measure => simp [intOf]; omega
    · have ek : b.reps.take k = b.reps := List.take_of_length_le (by omega)
      have HA : Hid (∀ w', Below w.heap.size w w' → P (.returned (.tuple #[.int .i64 (sumR RpL.waking b.reps), .int .i64 (sumR RpL.opn b.reps), .int .i64 0])) w') := HF.out (came_all (by have e : k = b.reps.length := (by omega); have := HU.out; rwa [e] at this))
      rw [ek]
      go_wp2_with fail
      exact bodyPost_ret (v := .tuple #[.int .i64 (sumR RpL.waking b.reps), .int .i64 (sumR RpL.opn b.reps), .int .i64 0]) (by simp [results, Try.results16, go_sem]) rfl (HA.out _ (HK.out _ HB.out).2.1)
end Go.Proofs.Ytpikfiegmnmbmaa
