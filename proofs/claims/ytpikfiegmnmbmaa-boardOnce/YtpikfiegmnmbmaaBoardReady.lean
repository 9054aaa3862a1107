/-
  Contract of board.Ready.
-/
import Derived.Test.YtpikfiegmnmbmaaBoardAllCame
namespace Go.Proofs.Ytpikfiegmnmbmaa
set_option maxRecDepth 100000
open Go.ChangeShapes Go.WideShapes Go.ChangeAt Go.RowKit

theorem bMayBe_is {b : BdL} {t : Bool} (ht : mayBd b = t) (vr : Value) (w : World) (h : RpsR w vr b.reps) :
    Calls Try.prog 23 #[.agg #[.int .i64 b.workers, .int .i64 b.epoch, .int .i64 b.step, vr]] w fun e w' => e = .returned (.bool t) ∧ Below w.heap.size w w' := by
  have := bMayBe_any b vr w h
  rwa [ht] at this
theorem allCame_is {b : BdL} {t : Bool} (ht : cameB b.reps = t) (vr : Value) (w : World) (h : RpsR w vr b.reps) (hin : ∀ r ∈ b.reps, inR b.workers r = true) :
    Calls Try.prog 30 #[.agg #[.int .i64 b.workers, .int .i64 b.epoch, .int .i64 b.step, vr]] w fun e w' => e = .returned (.bool t) ∧ Below w.heap.size w w' := by
  have := allCame_any b vr w h hin
  rwa [ht] at this
/-- What Ready answers. -/
def RdyP (w : World) (b : BdL) (e : Ending) (w' : World) : Prop := e = .returned (.tuple #[.int .i64 (rdA b RpL.waking), .int .i64 (rdA b RpL.opn), .int .i64 (rdE b)]) ∧ Below w.heap.size w w'
theorem RdyP.no {w w' : World} {b : BdL} {f : Int} (h : rdE b = f) (hf : f ≠ 0) (hb : Below w.heap.size w w') : RdyP w b (.returned (.tuple #[.int .i64 0, .int .i64 0, .int .i64 f])) w' := by
  refine ⟨?_, hb⟩
  rw [rdA_no _ (by rw [h]; exact hf), rdA_no _ (by rw [h]; exact hf), h]
theorem RdyP.yes {w w' : World} {b : BdL} (h : rdE b = 0) (hb : Below w.heap.size w w') : RdyP w b (.returned (.tuple #[.int .i64 (sumR RpL.waking b.reps), .int .i64 (sumR RpL.opn b.reps), .int .i64 0])) w' := by
  refine ⟨?_, hb⟩
  rw [rdA_yes _ h, rdA_yes _ h, h]

set_option maxHeartbeats 8000000 in
set_option maxRecDepth 100000 in
theorem bReady_any (b : BdL) (vr : Value) (w : World) (h : RpsR w vr b.reps) :
    Calls Try.prog 15 #[.agg #[.int .i64 b.workers, .int .i64 b.epoch, .int .i64 b.step, vr]] w (RdyP w b) := by
  have HR : Hid (RpsR w vr b.reps) := h
  obtain ⟨ra, rc, rfl⟩ := h.shape
  have hml : b.reps.length ≤ 9223372036854775807 := by obtain ⟨gs, h1, ⟨_, c, e, h2, h3, _⟩, _⟩ := h; rw [← h1, List.length_map]; unfold maxLen at h3; omega
  clear h
  obtain ⟨W0, hW0⟩ : ∃ W0, W0 = w.alloc (.cells #[.int .i64 b.workers, .int .i64 b.epoch, .int .i64 b.step, .slice ra b.reps.length rc] 24) := ⟨_, rfl⟩
  have Q0 : BX 24 W0 w.heap.size #[.int .i64 b.workers, .int .i64 b.epoch, .int .i64 b.step, .slice ra b.reps.length rc] := by rw [hW0]; exact BX.new _ _ _
  have B0 : Below w.heap.size w W0 := by rw [hW0]; exact below_alloc _ _
  have s0 : w.heap.size < W0.heap.size := Q0.lt
  have HK : Hid (∀ X, Below W0.heap.size W0 X → BX 24 X w.heap.size #[.int .i64 b.workers, .int .i64 b.epoch, .int .i64 b.step, .slice ra b.reps.length rc] ∧ Below w.heap.size w X ∧ RpsR X (.slice ra b.reps.length rc) b.reps) := fun X hX => by
    have hb := B0.trans (hX.mono (show w.heap.size ≤ W0.heap.size by omega))
    exact ⟨Q0.below hX s0, hb, HR.out.below hb (Nat.le_refl _)⟩
  have A0 : Hid (Below W0.heap.size W0 W0) := Below.refl _ _
  clear B0 HR
  obtain ⟨b0, b1, b2, b3⟩ := Q0.all4
  clear Q0
  have HN : Hid (mayBd b = false → ∀ w', Below w.heap.size w w' → RdyP w b (.returned (.tuple #[.int .i64 0, .int .i64 0, .int .i64 9])) w') := fun h w' hb => RdyP.no (rdE_no h) (by decide) hb
  have HT : Hid (mayBd b = true → ¬ (b.workers ≤ (b.reps.length : Int) ∧ cameB b.reps = true) → ∀ w', Below w.heap.size w w' → RdyP w b (.returned (.tuple #[.int .i64 0, .int .i64 0, .int .i64 12])) w') := fun h h2 w' hb => RdyP.no (rdE_wait h h2) (by decide) hb
  have HY : Hid (mayBd b = true → (b.workers ≤ (b.reps.length : Int) ∧ cameB b.reps = true) → ∀ w', Below w.heap.size w w' → RdyP w b (.returned (.tuple #[.int .i64 (sumR RpL.waking b.reps), .int .i64 (sumR RpL.opn b.reps), .int .i64 0])) w') := fun h h2 w' hb => RdyP.yes (rdE_yes h h2) hb
  generalize RdyP w b = P at *
  cases hm : mayBd b
  case false =>
    have HE := HN.out hm
    have CM : Hid (∀ X, RpsR X (.slice ra b.reps.length rc) b.reps → Calls Try.prog 23 #[.agg #[.int .i64 b.workers, .int .i64 b.epoch, .int .i64 b.step, .slice ra b.reps.length rc]] X fun e w' => e = .returned (.bool false) ∧ Below X.heap.size X w') := fun X h => bMayBe_is hm _ X h
    replace HE : Hid (∀ w', Below w.heap.size w w' → P (.returned (.tuple #[.int .i64 0, .int .i64 0, .int .i64 9])) w') := HE
    clear HN HT HY hm
    go_enter Try.func15, Try.ntmps15
    go_upto_region 1 with fail
    rw [← hW0]
    clear hW0
    go_wp2_with fail
    refine (CM.out _ (HK.out _ A0.out).2.2).mono ?_
    rintro e w1 ⟨rfl, hb1⟩
    have A1 : Hid (Below W0.heap.size W0 w1) := hb1
    clear hb1 b0 b1 b2 b3
    go_wp2_with fail
    exact bodyPost_ret (v := .tuple #[.int .i64 0, .int .i64 0, .int .i64 9]) (by simp [results, Try.results15, go_sem]) rfl (HE.out _ (HK.out _ A1.out).2.1)
  have CM : Hid (∀ X, RpsR X (.slice ra b.reps.length rc) b.reps → Calls Try.prog 23 #[.agg #[.int .i64 b.workers, .int .i64 b.epoch, .int .i64 b.step, .slice ra b.reps.length rc]] X fun e w' => e = .returned (.bool true) ∧ Below X.heap.size X w') := fun X h => bMayBe_is hm _ X h
  by_cases hw : (b.reps.length : Int) < b.workers
  · have HE : Hid (∀ w', Below w.heap.size w w' → P (.returned (.tuple #[.int .i64 0, .int .i64 0, .int .i64 12])) w') := HT.out hm (fun h => by omega)
    clear HN HT HY hm
    go_enter Try.func15, Try.ntmps15
    go_upto_region 1 with fail
    rw [← hW0]
    clear hW0
    go_wp2_with fail
    refine (CM.out _ (HK.out _ A0.out).2.2).mono ?_
    rintro e w1 ⟨rfl, hb1⟩
    have A1 : Hid (Below W0.heap.size W0 w1) := hb1
    clear hb1 b0 b1 b2 b3
    obtain ⟨b0, b1, b2, b3⟩ := (HK.out _ A1.out).1.all4
    go_wp2_with fail
    exact bodyPost_ret (v := .tuple #[.int .i64 0, .int .i64 0, .int .i64 12]) (by simp [results, Try.results15, go_sem]) rfl (HE.out _ (HK.out _ A1.out).2.1)
  cases hc : cameB b.reps
  · have HE : Hid (∀ w', Below w.heap.size w w' → P (.returned (.tuple #[.int .i64 0, .int .i64 0, .int .i64 12])) w') := HT.out hm (fun h => by rw [hc] at h; cases h.2)
    have CA : Hid (∀ X, RpsR X (.slice ra b.reps.length rc) b.reps → Calls Try.prog 30 #[.agg #[.int .i64 b.workers, .int .i64 b.epoch, .int .i64 b.step, .slice ra b.reps.length rc]] X fun e w' => e = .returned (.bool false) ∧ Below X.heap.size X w') := fun X h => allCame_is hc _ X h (may_all hm)
    clear HN HT HY hm hc
    go_enter Try.func15, Try.ntmps15
    go_upto_region 1 with fail
    rw [← hW0]
    clear hW0
    go_wp2_with fail
    refine (CM.out _ (HK.out _ A0.out).2.2).mono ?_
    rintro e w1 ⟨rfl, hb1⟩
    have A1 : Hid (Below W0.heap.size W0 w1) := hb1
    clear hb1 b0 b1 b2 b3
    obtain ⟨b0, b1, b2, b3⟩ := (HK.out _ A1.out).1.all4
    go_wp2_with fail
    refine (CA.out _ (HK.out _ A1.out).2.2).mono ?_
    rintro e w2 ⟨rfl, hb2⟩
    have A2 : Hid (Below W0.heap.size W0 w2) := A1.out.trans (hb2.mono A1.out.size)
    clear hb2 b0 b1 b2 b3
    go_wp2_with fail
    exact bodyPost_ret (v := .tuple #[.int .i64 0, .int .i64 0, .int .i64 12]) (by simp [results, Try.results15, go_sem]) rfl (HE.out _ (HK.out _ A2.out).2.1)
  have HE : Hid (∀ w', Below w.heap.size w w' → P (.returned (.tuple #[.int .i64 (sumR RpL.waking b.reps), .int .i64 (sumR RpL.opn b.reps), .int .i64 0])) w') := HY.out hm ⟨by omega, hc⟩
  have CA : Hid (∀ X, RpsR X (.slice ra b.reps.length rc) b.reps → Calls Try.prog 30 #[.agg #[.int .i64 b.workers, .int .i64 b.epoch, .int .i64 b.step, .slice ra b.reps.length rc]] X fun e w' => e = .returned (.bool true) ∧ Below X.heap.size X w') := fun X h => allCame_is hc _ X h (may_all hm)
  clear HN HT HY hm hc
  go_enter Try.func15, Try.ntmps15
  go_upto_region 1 with fail
  rw [← hW0]
  clear hW0
  go_wp2_with fail
  refine (CM.out _ (HK.out _ A0.out).2.2).mono ?_
  rintro e w1 ⟨rfl, hb1⟩
  have A1 : Hid (Below W0.heap.size W0 w1) := hb1
  clear hb1 b0 b1 b2 b3
  obtain ⟨b0, b1, b2, b3⟩ := (HK.out _ A1.out).1.all4
  go_wp2_with fail
  refine (CA.out _ (HK.out _ A1.out).2.2).mono ?_
  rintro e w2 ⟨rfl, hb2⟩
  have A2 : Hid (Below W0.heap.size W0 w2) := A1.out.trans (hb2.mono A1.out.size)
  clear hb2 b0 b1 b2 b3 CM CA
  obtain ⟨b0, b1, b2, b3⟩ := (HK.out _ A2.out).1.all4
  go_wp2_with fail
  go_loopw [2, 3, 24] (fun a c i wr => ∃ k : Nat, k ≤ b.reps.length ∧ i = .int .i64 k ∧ a = .int .i64 (sumR RpL.waking (b.reps.take k)) ∧ c = .int .i64 (sumR RpL.opn (b.reps.take k)) ∧ Below W0.heap.size W0 wr) (fun _ _ i _ => b.reps.length - (intOf i).toNat)
  case atStart => exact ⟨0, by omega, rfl, rfl, rfl, A2.out⟩
  case round =>
    obtain ⟨k, hk, rfl, rfl, rfl, hbel⟩ := hrel
    have HB : Hid (Below W0.heap.size W0 wr) := hbel
    have hsr := hbel.size
    clear hbel b0 b1 b2 b3
    by_cases hlt : k < b.reps.length
    · obtain ⟨rb, off, cap', e1, hcl, hm, lt, hv⟩ := RpsR.at (HK.out _ HB.out).2.2 (by omega)
      unfold maxLen at hm
      injection e1 with e1 e2 e3
      subst e1 e3
      clear e2
      obtain ⟨x, hx⟩ := getX hlt
      obtain ⟨sa, sc, ga, gc, ⟨c0, c1, c2, c3, c4, c5, c6⟩, _, _⟩ := hv k x hx
      have S1 : Hid (sumR RpL.waking (b.reps.take (k + 1)) = IntKind.i64.wrap (sumR RpL.waking (b.reps.take k) + x.waking)) := sumR_cut hx
      have S2 : Hid (sumR RpL.opn (b.reps.take (k + 1)) = IntKind.i64.wrap (sumR RpL.opn (b.reps.take k) + x.opn)) := sumR_cut hx
      clear hv hx
      have hV : Hid (Below W0.heap.size W0 (wr.alloc (.cells #[.int .i64 x.worker, .int .i64 x.epoch, .int .i64 x.step, .slice sa x.sent.length sc, .slice ga x.got.length gc, .int .i64 x.waking, .int .i64 x.opn] 32)) ∧ BX 32 (wr.alloc (.cells #[.int .i64 x.worker, .int .i64 x.epoch, .int .i64 x.step, .slice sa x.sent.length sc, .slice ga x.got.length gc, .int .i64 x.waking, .int .i64 x.opn] 32)) wr.heap.size #[.int .i64 x.worker, .int .i64 x.epoch, .int .i64 x.step, .slice sa x.sent.length sc, .slice ga x.got.length gc, .int .i64 x.waking, .int .i64 x.opn]) := ⟨HB.out.alloc hsr _, BX.new _ _ _⟩
      generalize sumR RpL.waking (b.reps.take k) = A at *
      generalize sumR RpL.opn (b.reps.take k) = C at *
      go_upto_region 8 with fail
      generalize wr.alloc (.cells #[.int .i64 x.worker, .int .i64 x.epoch, .int .i64 x.step, .slice sa x.sent.length sc, .slice ga x.got.length gc, .int .i64 x.waking, .int .i64 x.opn] 32) = V at *
      generalize wr.heap.size = q at *
      obtain ⟨bV, xV⟩ := hV.out
      have BV : Hid (Below W0.heap.size W0 V) := bV
      clear c0 c1 c2 c3 c4 c5 c6 bV hV
      obtain ⟨c0, c1, c2, c3, c4, c5, c6⟩ := xV.all7
      go_wp2_with fail
      go_roundw
      case rel => exact ⟨k + 1, by omega, by go_num, by rw [S1.out, IntKind.wrap_i64]; unfold wrap64; rfl, by rw [S2.out, IntKind.wrap_i64]; unfold wrap64; rfl, BV.out⟩
      case measure => simp [intOf]; omega
    · have ek : b.reps.take k = b.reps := List.take_of_length_le (by omega)
      rw [ek]
      go_wp2_with fail
      exact bodyPost_ret (v := .tuple #[.int .i64 (sumR RpL.waking b.reps), .int .i64 (sumR RpL.opn b.reps), .int .i64 0]) (by simp [results, Try.results15, go_sem]) rfl (HE.out _ (HK.out _ HB.out).2.1)
end Go.Proofs.Ytpikfiegmnmbmaa
