/-
  Contract of board.Hear.
-/
import Derived.Test.YtpikfiegmnmbmaaBoardHearP
import Derived.Test.YtpikfiegmnmbmaaBoardApart
import Derived.Test.YtpikfiegmnmbmaaBoardReady
import Derived.Test.YtpikfiegmnmbmaaBoardCopy
import Derived.Test.YtpikfiegmnmbmaaRegionCall
import Derived.Shelf.Abstract
namespace Go.Proofs.Ytpikfiegmnmbmaa
set_option maxRecDepth 100000
open Go.ChangeShapes Go.WideShapes Go.ChangeAt Go.RowKit

set_option maxHeartbeats 8000000 in
set_option maxRecDepth 100000 in
theorem bHear_any (b : BdL) (r : RpL) (vr vs vg : Value) (w : World) (h : RpsR w vr b.reps) (hs : InR w vs r.sent) (hg : InR w vg r.got) (hB : BdB b) (hC : RpB r) :
    Calls Try.prog 13 #[.agg #[.int .i64 b.workers, .int .i64 b.epoch, .int .i64 b.step, vr], .agg #[.int .i64 r.worker, .int .i64 r.epoch, .int .i64 r.step, vs, vg, .int .i64 r.waking, .int .i64 r.opn]] w (BhrP w (heB b r) (heE b r)) := by
  have HR : Hid (RpsR w vr b.reps) := h
  have HS : Hid (InR w vs r.sent) := hs
  have HG : Hid (InR w vg r.got) := hg
  have HBB : Hid (∀ r ∈ b.reps, RpB r) := hB.2
  have HCC : Hid (RpB r) := hC
  have hL := hB.1
  obtain ⟨ra, rc, rfl⟩ := h.shape
  obtain ⟨sa, sc, rfl⟩ := hs.shape
  obtain ⟨ga, gc, rfl⟩ := hg.shape
  clear h hB hs hg hC
  obtain ⟨W0, hW0⟩ : ∃ W0, W0 = ((w.alloc (.cells #[.int .i64 b.workers, .int .i64 b.epoch, .int .i64 b.step, .slice ra b.reps.length rc] 24)).alloc (.cells #[.int .i64 r.worker, .int .i64 r.epoch, .int .i64 r.step, .slice sa r.sent.length sc, .slice ga r.got.length gc, .int .i64 r.waking, .int .i64 r.opn] 32)).alloc (.cells #[.int .i64 0, .int .i64 0, .int .i64 0, .slice none 0 0] 24) := ⟨_, rfl⟩
  obtain ⟨Q0, R0, M0, B0, s1, s2⟩ := boxes3 w #[.int .i64 b.workers, .int .i64 b.epoch, .int .i64 b.step, .slice ra b.reps.length rc] #[.int .i64 r.worker, .int .i64 r.epoch, .int .i64 r.step, .slice sa r.sent.length sc, .slice ga r.got.length gc, .int .i64 r.waking, .int .i64 r.opn] #[.int .i64 0, .int .i64 0, .int .i64 0, .slice none 0 0] 24 32 24 W0 hW0
  have HK : Hid (∀ X, Below W0.heap.size W0 X → (BX 24 X w.heap.size #[.int .i64 b.workers, .int .i64 b.epoch, .int .i64 b.step, .slice ra b.reps.length rc] ∧ BX 32 X (w.heap.size + 1) #[.int .i64 r.worker, .int .i64 r.epoch, .int .i64 r.step, .slice sa r.sent.length sc, .slice ga r.got.length gc, .int .i64 r.waking, .int .i64 r.opn] ∧ BX 24 X (w.heap.size + 2) #[.int .i64 0, .int .i64 0, .int .i64 0, .slice none 0 0]) ∧ Below w.heap.size w X ∧ RpsR X (.slice ra b.reps.length rc) b.reps ∧ InR X (.slice sa r.sent.length sc) r.sent ∧ InR X (.slice ga r.got.length gc) r.got) := fun X hX => by
    have hb := B0.trans (hX.mono (show w.heap.size ≤ W0.heap.size by omega))
    exact ⟨⟨Q0.below hX (by omega), R0.below hX (by omega), M0.below hX (by omega)⟩, hb, HR.out.below hb (Nat.le_refl _), HS.out.below hb (Nat.le_refl _), HG.out.below hb (Nat.le_refl _)⟩
  have A0 : Hid (Below W0.heap.size W0 W0) := Below.refl _ _
  obtain ⟨b0, b1, b2, b3⟩ := Q0.all4
  obtain ⟨q0, q1, q2, q3, q4, q5, q6⟩ := R0.all7
  clear B0 HR HS HG Q0 R0 M0
  have HN : Hid (∀ f : Int, heE b r = f → f ≠ 0 → ∀ w', Below w.heap.size w w' → BhrP w (heB b r) (heE b r) (.returned (.tuple #[.agg #[.int .i64 0, .int .i64 0, .int .i64 0, .slice none 0 0], .int .i64 f])) w') := fun f h h2 w' hb => BhrP.no h h2 hb
  have HY : Hid (heE b r = 0 → ∀ v w', OwnR w' w.heap.size v (b.reps ++ [r]) → Below w.heap.size w w' → BhrP w (heB b r) (heE b r) (.returned (.tuple #[.agg #[.int .i64 b.workers, .int .i64 b.epoch, .int .i64 b.step, v], .int .i64 0])) w') := fun h v w' ho hb => BhrP.yes h ho hb
  generalize BhrP w (heB b r) (heE b r) = P at *
  cases hm : mayBd b
  case false =>
    have C1 : Hid (∀ X, RpsR X (.slice ra b.reps.length rc) b.reps → Calls Try.prog 23 #[.agg #[.int .i64 b.workers, .int .i64 b.epoch, .int .i64 b.step, .slice ra b.reps.length rc]] X fun e w' => e = .returned (.bool false) ∧ Below X.heap.size X w') := fun X h => bMayBe_is hm _ X h
    have HE : Hid (∀ w', Below w.heap.size w w' → P (.returned (.tuple #[.agg #[.int .i64 0, .int .i64 0, .int .i64 0, .slice none 0 0], .int .i64 9])) w') := HN.out 9 (heE_no hm) (by decide)
    clear HN HY
    go_enter Try.func13, Try.ntmps13
    go_upto_region 1 with fail
    rw [← hW0]
    clear hW0
    go_wp2_with fail
    refine (C1.out _ (HK.out _ A0.out).2.2.1).mono ?_
    rintro e w1 ⟨rfl, hb⟩
    have A1 : Hid (Below W0.heap.size W0 w1) := A0.out.trans (hb.mono A0.out.size)
    clear hb
    clear b0 b1 b2 b3 q0 q1 q2 q3 q4 q5 q6
    obtain ⟨b0, b1, b2, b3⟩ := (HK.out _ A1.out).1.1.all4
    obtain ⟨q0, q1, q2, q3, q4, q5, q6⟩ := (HK.out _ A1.out).1.2.1.all7
    obtain ⟨m0, m1, m2, m3⟩ := (HK.out _ A1.out).1.2.2.all4
    obtain ⟨f0, f1, f2, f3⟩ := (HK.out _ A1.out).1.2.2.all4f
    have HX : Hid (P (.returned (.tuple #[.agg #[.int .i64 0, .int .i64 0, .int .i64 0, .slice none 0 0], .int .i64 9])) (put4 w1 (w.heap.size + 2) (.int .i64 0) (.int .i64 0) (.int .i64 0) (.slice none 0 0))) := HE.out _ (below_put4 (HK.out _ A1.out).2.1 (by omega) _ _ _ _)
    have RX : Hid (BX 24 (put4 w1 (w.heap.size + 2) (.int .i64 0) (.int .i64 0) (.int .i64 0) (.slice none 0 0)) (w.heap.size + 2) #[.int .i64 0, .int .i64 0, .int .i64 0, .slice none 0 0]) := BX.put4 (HK.out _ A1.out).1.2.2
    go_wp2_with fail
    obtain ⟨r0, r1, r2, r3⟩ := RX.out.all4
    unfold put4 at r0 r1 r2 r3
    exact bodyPost_ret (v := .tuple #[.agg #[.int .i64 0, .int .i64 0, .int .i64 0, .slice none 0 0], .int .i64 9]) (by simp [results, Try.results13, go_sem, r0, r1, r2, r3]) rfl HX.out
  have C1 : Hid (∀ X, RpsR X (.slice ra b.reps.length rc) b.reps → Calls Try.prog 23 #[.agg #[.int .i64 b.workers, .int .i64 b.epoch, .int .i64 b.step, .slice ra b.reps.length rc]] X fun e w' => e = .returned (.bool true) ∧ Below X.heap.size X w') := fun X h => bMayBe_is hm _ X h
  have C2 : Hid (∀ X, InR X (.slice sa r.sent.length sc) r.sent → InR X (.slice ga r.got.length gc) r.got → Calls Try.prog 24 #[.agg #[.int .i64 b.workers, .int .i64 b.epoch, .int .i64 b.step, .slice ra b.reps.length rc], .agg #[.int .i64 r.worker, .int .i64 r.epoch, .int .i64 r.step, .slice sa r.sent.length sc, .slice ga r.got.length gc, .int .i64 r.waking, .int .i64 r.opn]] X fun e w' => e = .returned (.int .i64 (stE b r)) ∧ Below X.heap.size X w') := fun X h1 h2 => stands_any b r _ _ _ _ _ X h1 h2
  have K2 : Hid (stE b r ≠ 0 → heE b r = stE b r) := fun h => heE_st hm h
  have K3 : Hid (stE b r = 0 → byB b.reps r.worker = true → heE b r = 8) := fun h h2 => heE_two hm h h2
  have K4 : Hid (stE b r = 0 → byB b.reps r.worker = false → heE b r = 0) := fun h h2 => heE_yes hm h h2
  clear hm
  generalize stE b r = t at *
  by_cases ht : t = 0
  case neg =>
    have tn : (t != 0) = true := by simp [ht]
    have HT : Hid (¬ t = 0) := ht
    clear ht
    have HE : Hid (∀ w', Below w.heap.size w w' → P (.returned (.tuple #[.agg #[.int .i64 0, .int .i64 0, .int .i64 0, .slice none 0 0], .int .i64 t])) w') := HN.out t (K2.out HT.out) HT.out
    clear HN HY
    go_enter Try.func13, Try.ntmps13
    go_upto_region 1 with fail
    rw [← hW0]
    clear hW0
    go_wp2_with fail
    refine (C1.out _ (HK.out _ A0.out).2.2.1).mono ?_
    rintro e w1 ⟨rfl, hb⟩
    have A1 : Hid (Below W0.heap.size W0 w1) := A0.out.trans (hb.mono A0.out.size)
    clear hb
    clear b0 b1 b2 b3 q0 q1 q2 q3 q4 q5 q6
    obtain ⟨b0, b1, b2, b3⟩ := (HK.out _ A1.out).1.1.all4
    obtain ⟨q0, q1, q2, q3, q4, q5, q6⟩ := (HK.out _ A1.out).1.2.1.all7
    go_wp2_with fail
    refine (C2.out _ (HK.out _ A1.out).2.2.2.1 (HK.out _ A1.out).2.2.2.2).mono ?_
    rintro e w2 ⟨rfl, hb⟩
    have A2 : Hid (Below W0.heap.size W0 w2) := A1.out.trans (hb.mono A1.out.size)
    clear hb
    clear b0 b1 b2 b3 q0 q1 q2 q3 q4 q5 q6
    obtain ⟨b0, b1, b2, b3⟩ := (HK.out _ A2.out).1.1.all4
    obtain ⟨q0, q1, q2, q3, q4, q5, q6⟩ := (HK.out _ A2.out).1.2.1.all7
    obtain ⟨m0, m1, m2, m3⟩ := (HK.out _ A2.out).1.2.2.all4
    obtain ⟨f0, f1, f2, f3⟩ := (HK.out _ A2.out).1.2.2.all4f
    have HX : Hid (P (.returned (.tuple #[.agg #[.int .i64 0, .int .i64 0, .int .i64 0, .slice none 0 0], .int .i64 t])) (put4 w2 (w.heap.size + 2) (.int .i64 0) (.int .i64 0) (.int .i64 0) (.slice none 0 0))) := HE.out _ (below_put4 (HK.out _ A2.out).2.1 (by omega) _ _ _ _)
    have RX : Hid (BX 24 (put4 w2 (w.heap.size + 2) (.int .i64 0) (.int .i64 0) (.int .i64 0) (.slice none 0 0)) (w.heap.size + 2) #[.int .i64 0, .int .i64 0, .int .i64 0, .slice none 0 0]) := BX.put4 (HK.out _ A2.out).1.2.2
    go_wp2_with fail
    obtain ⟨r0, r1, r2, r3⟩ := RX.out.all4
    unfold put4 at r0 r1 r2 r3
    exact bodyPost_ret (v := .tuple #[.agg #[.int .i64 0, .int .i64 0, .int .i64 0, .slice none 0 0], .int .i64 t]) (by simp [results, Try.results13, go_sem, r0, r1, r2, r3]) rfl HX.out
  subst ht
  cases hy : byB b.reps r.worker
  case true =>
    have C3 : Hid (∀ X, RpsR X (.slice ra b.reps.length rc) b.reps → Calls Try.prog 25 #[.slice ra b.reps.length rc, .int .i64 r.worker] X fun e w' => e = .returned (.bool true) ∧ Below X.heap.size X w') := fun X h => by
      have := heardOf_any _ b.reps r.worker X h
      rwa [hy] at this
    have HE : Hid (∀ w', Below w.heap.size w w' → P (.returned (.tuple #[.agg #[.int .i64 0, .int .i64 0, .int .i64 0, .slice none 0 0], .int .i64 8])) w') := HN.out 8 (K3.out rfl hy) (by decide)
    clear HN HY
    go_enter Try.func13, Try.ntmps13
    go_upto_region 1 with fail
    rw [← hW0]
    clear hW0
    go_wp2_with fail
    refine (C1.out _ (HK.out _ A0.out).2.2.1).mono ?_
    rintro e w1 ⟨rfl, hb⟩
    have A1 : Hid (Below W0.heap.size W0 w1) := A0.out.trans (hb.mono A0.out.size)
    clear hb
    clear b0 b1 b2 b3 q0 q1 q2 q3 q4 q5 q6
    obtain ⟨b0, b1, b2, b3⟩ := (HK.out _ A1.out).1.1.all4
    obtain ⟨q0, q1, q2, q3, q4, q5, q6⟩ := (HK.out _ A1.out).1.2.1.all7
    go_wp2_with fail
    refine (C2.out _ (HK.out _ A1.out).2.2.2.1 (HK.out _ A1.out).2.2.2.2).mono ?_
    rintro e w2 ⟨rfl, hb⟩
    have A2 : Hid (Below W0.heap.size W0 w2) := A1.out.trans (hb.mono A1.out.size)
    clear hb
    clear b0 b1 b2 b3 q0 q1 q2 q3 q4 q5 q6
    obtain ⟨b0, b1, b2, b3⟩ := (HK.out _ A2.out).1.1.all4
    obtain ⟨q0, q1, q2, q3, q4, q5, q6⟩ := (HK.out _ A2.out).1.2.1.all7
    go_wp2_with fail
    refine (C3.out _ (HK.out _ A2.out).2.2.1).mono ?_
    rintro e w3 ⟨rfl, hb⟩
    have A3 : Hid (Below W0.heap.size W0 w3) := A2.out.trans (hb.mono A2.out.size)
    clear hb
    clear b0 b1 b2 b3 q0 q1 q2 q3 q4 q5 q6
    obtain ⟨b0, b1, b2, b3⟩ := (HK.out _ A3.out).1.1.all4
    obtain ⟨q0, q1, q2, q3, q4, q5, q6⟩ := (HK.out _ A3.out).1.2.1.all7
    obtain ⟨m0, m1, m2, m3⟩ := (HK.out _ A3.out).1.2.2.all4
    obtain ⟨f0, f1, f2, f3⟩ := (HK.out _ A3.out).1.2.2.all4f
    have HX : Hid (P (.returned (.tuple #[.agg #[.int .i64 0, .int .i64 0, .int .i64 0, .slice none 0 0], .int .i64 8])) (put4 w3 (w.heap.size + 2) (.int .i64 0) (.int .i64 0) (.int .i64 0) (.slice none 0 0))) := HE.out _ (below_put4 (HK.out _ A3.out).2.1 (by omega) _ _ _ _)
    have RX : Hid (BX 24 (put4 w3 (w.heap.size + 2) (.int .i64 0) (.int .i64 0) (.int .i64 0) (.slice none 0 0)) (w.heap.size + 2) #[.int .i64 0, .int .i64 0, .int .i64 0, .slice none 0 0]) := BX.put4 (HK.out _ A3.out).1.2.2
    go_wp2_with fail
    obtain ⟨r0, r1, r2, r3⟩ := RX.out.all4
    unfold put4 at r0 r1 r2 r3
    exact bodyPost_ret (v := .tuple #[.agg #[.int .i64 0, .int .i64 0, .int .i64 0, .slice none 0 0], .int .i64 8]) (by simp [results, Try.results13, go_sem, r0, r1, r2, r3]) rfl HX.out
  have C3 : Hid (∀ X, RpsR X (.slice ra b.reps.length rc) b.reps → Calls Try.prog 25 #[.slice ra b.reps.length rc, .int .i64 r.worker] X fun e w' => e = .returned (.bool false) ∧ Below X.heap.size X w') := fun X h => by
    have := heardOf_any _ b.reps r.worker X h
    rwa [hy] at this
  have HE : Hid (∀ v w', OwnR w' w.heap.size v (b.reps ++ [r]) → Below w.heap.size w w' → P (.returned (.tuple #[.agg #[.int .i64 b.workers, .int .i64 b.epoch, .int .i64 b.step, v], .int .i64 0])) w') := HY.out (K4.out rfl hy)
  clear HN HY K2 K3 K4 hy
  go_enter Try.func13, Try.ntmps13
  go_upto_region 1 with fail
  rw [← hW0]
  clear hW0
  go_wp2_with fail
  refine (C1.out _ (HK.out _ A0.out).2.2.1).mono ?_
  rintro e w1 ⟨rfl, hb⟩
  have A1 : Hid (Below W0.heap.size W0 w1) := A0.out.trans (hb.mono A0.out.size)
  clear hb
  clear b0 b1 b2 b3 q0 q1 q2 q3 q4 q5 q6
  obtain ⟨b0, b1, b2, b3⟩ := (HK.out _ A1.out).1.1.all4
  obtain ⟨q0, q1, q2, q3, q4, q5, q6⟩ := (HK.out _ A1.out).1.2.1.all7
  go_wp2_with fail
  refine (C2.out _ (HK.out _ A1.out).2.2.2.1 (HK.out _ A1.out).2.2.2.2).mono ?_
  rintro e w2 ⟨rfl, hb⟩
  have A2 : Hid (Below W0.heap.size W0 w2) := A1.out.trans (hb.mono A1.out.size)
  clear hb
  clear b0 b1 b2 b3 q0 q1 q2 q3 q4 q5 q6
  obtain ⟨b0, b1, b2, b3⟩ := (HK.out _ A2.out).1.1.all4
  obtain ⟨q0, q1, q2, q3, q4, q5, q6⟩ := (HK.out _ A2.out).1.2.1.all7
  go_wp2_with fail
  refine (C3.out _ (HK.out _ A2.out).2.2.1).mono ?_
  rintro e w3 ⟨rfl, hb⟩
  have A3 : Hid (Below W0.heap.size W0 w3) := A2.out.trans (hb.mono A2.out.size)
  clear hb
  clear b0 b1 b2 b3 q0 q1 q2 q3 q4 q5 q6
  obtain ⟨b0, b1, b2, b3⟩ := (HK.out _ A3.out).1.1.all4
  obtain ⟨q0, q1, q2, q3, q4, q5, q6⟩ := (HK.out _ A3.out).1.2.1.all7
  have N1 : Hid (BX 24 (w3.alloc (.cells #[.int .i64 b.workers, .int .i64 b.epoch, .int .i64 b.step, .slice none 0 0] 24)) w3.heap.size #[.int .i64 b.workers, .int .i64 b.epoch, .int .i64 b.step, .slice none 0 0] ∧ Below w3.heap.size w3 (w3.alloc (.cells #[.int .i64 b.workers, .int .i64 b.epoch, .int .i64 b.step, .slice none 0 0] 24))) := ⟨BX.new _ _ _, below_alloc _ _⟩
  go_upto_region 9 with fail
  generalize w3.alloc (.cells #[.int .i64 b.workers, .int .i64 b.epoch, .int .i64 b.step, .slice none 0 0] 24) = W1 at *
  have hs3 := A3.out.size
  have KW : Hid (∀ X, Below w3.heap.size w3 X → Below W0.heap.size W0 X) := fun X hX => A3.out.trans (hX.mono hs3)
  clear C1 C2 C3 A1 A2 A3
  clear b0 b1 b2 b3 q0 q1 q2 q3 q4 q5 q6
  obtain ⟨b0, b1, b2, b3⟩ := (HK.out _ (KW.out _ N1.out.2)).1.1.all4
  obtain ⟨q0, q1, q2, q3, q4, q5, q6⟩ := (HK.out _ (KW.out _ N1.out.2)).1.2.1.all7
  go_wp2_with fail
  go_loopw [37] (fun i wr => ∃ (k : Nat) (u : Value), k ≤ b.reps.length ∧ i = .int .i64 k ∧ BX 24 wr w3.heap.size #[.int .i64 b.workers, .int .i64 b.epoch, .int .i64 b.step, u] ∧ OwnR wr w3.heap.size u (b.reps.take k) ∧ Below w3.heap.size w3 wr) (fun i _ => b.reps.length - (intOf i).toNat)
  case atStart => exact ⟨0, _, by omega, rfl, N1.out.1, OwnR.nil _ _, N1.out.2⟩
  case round =>
    obtain ⟨k, u, hk, rfl, hqx, hob, hbel⟩ := hrel
    have QR : Hid (BX 24 wr w3.heap.size #[.int .i64 b.workers, .int .i64 b.epoch, .int .i64 b.step, u]) := hqx
    have OB : Hid (OwnR wr w3.heap.size u (b.reps.take k)) := hob
    have HB : Hid (Below w3.heap.size w3 wr) := hbel
    have hsr := hbel.size
    clear hqx hob hbel
    clear b0 b1 b2 b3 q0 q1 q2 q3 q4 q5 q6
    obtain ⟨b0, b1, b2, b3⟩ := (HK.out _ (KW.out _ HB.out)).1.1.all4
    obtain ⟨q0, q1, q2, q3, q4, q5, q6⟩ := (HK.out _ (KW.out _ HB.out)).1.2.1.all7
    by_cases hlt : k < b.reps.length
    · obtain ⟨rb, off, cap', e1, hcl, hm, lt, hv⟩ := RpsR.at (HK.out _ (KW.out _ HB.out)).2.2.1 (by omega)
      unfold maxLen at hm
      injection e1 with e1 e2 e3
      subst e1 e3
      clear e2
      obtain ⟨x, hx⟩ := getX hlt
      obtain ⟨xa, xc, pa, pc, ⟨c0, c1, c2, c3, c4, c5, c6⟩, rs, rg⟩ := hv k x hx
      have HT : Hid (b.reps.take (k + 1) = b.reps.take k ++ [x]) := take_snoc hx
      have hk2 : (b.reps.take k).length ≤ k := by rw [List.length_take]; omega
      have XB : Hid (RpB x) := HBB.out x (List.mem_of_getElem? hx)
      clear hv hx
      have E1 : Hid (BX 32 (wr.alloc (.cells #[.int .i64 x.worker, .int .i64 x.epoch, .int .i64 x.step, .slice xa x.sent.length xc, .slice pa x.got.length pc, .int .i64 x.waking, .int .i64 x.opn] 32)) wr.heap.size #[.int .i64 x.worker, .int .i64 x.epoch, .int .i64 x.step, .slice xa x.sent.length xc, .slice pa x.got.length pc, .int .i64 x.waking, .int .i64 x.opn] ∧ BX 24 (wr.alloc (.cells #[.int .i64 x.worker, .int .i64 x.epoch, .int .i64 x.step, .slice xa x.sent.length xc, .slice pa x.got.length pc, .int .i64 x.waking, .int .i64 x.opn] 32)) w3.heap.size #[.int .i64 b.workers, .int .i64 b.epoch, .int .i64 b.step, u] ∧ OwnR (wr.alloc (.cells #[.int .i64 x.worker, .int .i64 x.epoch, .int .i64 x.step, .slice xa x.sent.length xc, .slice pa x.got.length pc, .int .i64 x.waking, .int .i64 x.opn] 32)) w3.heap.size u (b.reps.take k) ∧ InR (wr.alloc (.cells #[.int .i64 x.worker, .int .i64 x.epoch, .int .i64 x.step, .slice xa x.sent.length xc, .slice pa x.got.length pc, .int .i64 x.waking, .int .i64 x.opn] 32)) (.slice xa x.sent.length xc) x.sent ∧ InR (wr.alloc (.cells #[.int .i64 x.worker, .int .i64 x.epoch, .int .i64 x.step, .slice xa x.sent.length xc, .slice pa x.got.length pc, .int .i64 x.waking, .int .i64 x.opn] 32)) (.slice pa x.got.length pc) x.got ∧ Below w3.heap.size w3 (wr.alloc (.cells #[.int .i64 x.worker, .int .i64 x.epoch, .int .i64 x.step, .slice xa x.sent.length xc, .slice pa x.got.length pc, .int .i64 x.waking, .int .i64 x.opn] 32)) ∧ wr.heap.size < (wr.alloc (.cells #[.int .i64 x.worker, .int .i64 x.epoch, .int .i64 x.step, .slice xa x.sent.length xc, .slice pa x.got.length pc, .int .i64 x.waking, .int .i64 x.opn] 32)).heap.size) := ⟨BX.new _ _ _, QR.out.below (below_alloc _ _) QR.out.lt, OB.out.below (below_alloc _ _) (Nat.le_refl _), rs.below (below_alloc _ _) (Nat.le_refl _), rg.below (below_alloc _ _) (Nat.le_refl _), HB.out.alloc hsr _, by simp⟩
      clear rs rg QR OB HB
      go_upto_region 12 with fail
      clear c0 c1 c2 c3 c4 c5 c6
      generalize wr.alloc (.cells #[.int .i64 x.worker, .int .i64 x.epoch, .int .i64 x.step, .slice xa x.sent.length xc, .slice pa x.got.length pc, .int .i64 x.waking, .int .i64 x.opn] 32) = V at *
      generalize wr.heap.size = q7 at *
      obtain ⟨xV, qV, oV, sV, gV, bV, lV⟩ := E1.out
      have XV : Hid (BX 32 V q7 #[.int .i64 x.worker, .int .i64 x.epoch, .int .i64 x.step, .slice xa x.sent.length xc, .slice pa x.got.length pc, .int .i64 x.waking, .int .i64 x.opn]) := xV
      have QV : Hid (BX 24 V w3.heap.size #[.int .i64 b.workers, .int .i64 b.epoch, .int .i64 b.step, u]) := qV
      have OV : Hid (OwnR V w3.heap.size u (b.reps.take k)) := oV
      have SV : Hid (InR V (.slice xa x.sent.length xc) x.sent) := sV
      have GV : Hid (InR V (.slice pa x.got.length pc) x.got) := gV
      have BV : Hid (Below w3.heap.size w3 V) := bV
      have hsv := bV.size
      clear xV qV oV sV gV bV E1
      generalize b.reps.take k = f at *
      have KEEP : Hid (∀ X, Below V.heap.size V X → X.cell? ⟨w3.heap.size, 3, none⟩ = some u) := fun X hX => (QV.out.below hX QV.out.lt).all4.2.2.2
      have bd : Below V.heap.size V V.drew := (Below.refl _ _).drew
      have HSD : Hid (V.drew.cell? ⟨w3.heap.size, 3, none⟩ = some u) := KEEP.out _ bd
      have CC : Hid (Calls Try.prog 26 #[.agg #[.int .i64 x.worker, .int .i64 x.epoch, .int .i64 x.step, .slice xa x.sent.length xc, .slice pa x.got.length pc, .int .i64 x.waking, .int .i64 x.opn]] V.drew fun e w' => ∃ v, e = .returned v ∧ (∃ vs vg, v = .agg #[.int .i64 x.worker, .int .i64 x.epoch, .int .i64 x.step, vs, vg, .int .i64 x.waking, .int .i64 x.opn] ∧ w'.ownsRow V.heap.size 3 1 vs x.sent.length (x.sent.flatMap encI) ∧ w'.ownsRow V.heap.size 3 1 vg x.got.length (x.got.flatMap encI) ∧ Below V.heap.size V w')) := (apart_any x _ _ V.drew (SV.out.below bd (Nat.le_refl _)) (GV.out.below bd (Nat.le_refl _)) XB.out).mono fun e w' ⟨vs, vg, h1, h2, h3, h4⟩ => ⟨_, h1, vs, vg, rfl, h2, h3, bd.trans h4⟩
      have en : ∀ args w, (callFunc 26 args).run Try.prog w = .ok (.enter 26 args) w := enters_of Try.func26 (by kernel_rfl) rfl
      refine region_lastF (S := fun X => X.cell? ⟨w3.heap.size, 3, none⟩ = some u) (by kernel_rfl) rfl (by kernel_rfl) (by kernel_rfl) ?_
      simp only [List.pop_toArray, List.dropLast_cons_cons, List.dropLast_singleton, List.size_toArray, List.length_cons, List.length_nil, Nat.reduceAdd]
      refine takeH (i := 0) (v := .pointer (some ⟨w3.heap.size, 3, none⟩)) (d := 41) rfl rfl (by kernel_rfl) (by kernel_rfl) (by kernel_rfl) (fun _ _ _ h => h) (by rfl) (fun V hV => by have v1 := hV; go_simp) HSD.out ?_
      simp only [Act.put, List.setIfInBounds_toArray, List.set_cons_zero, List.set_cons_succ]
      refine takeH (i := 1) (v := u) (d := 42) rfl rfl (by kernel_rfl) (by kernel_rfl) (by kernel_rfl) (fun _ _ _ h => h) (by rfl) (fun V hV => by have v1 := hV; go_simp) HSD.out ?_
      simp only [Act.put, List.setIfInBounds_toArray, List.set_cons_zero, List.set_cons_succ]
      obtain ⟨l0, l1, l2, l3, l4, l5, l6⟩ := (XV.out.below bd lV).all7
      refine oneH (i := 2) rfl (by kernel_rfl) rfl (op_run (d := 43) (v' := .agg #[.int .i64 x.worker, .int .i64 x.epoch, .int .i64 x.step, .slice xa x.sent.length xc, .slice pa x.got.length pc, .int .i64 x.waking, .int .i64 x.opn]) (w' := V.drew) rfl (by go_simp) ⟨HSD.out, ?_⟩)
      simp only [Act.put, List.setIfInBounds_toArray, List.set_cons_zero, List.set_cons_succ]
      refine oneH (i := 3) rfl (by kernel_rfl) rfl (call_gets (d := 44) (f := 26) (xs := #[.tmp 43]) (ats := #[32]) rfl rfl en (vs := #[.agg #[.int .i64 x.worker, .int .i64 x.epoch, .int .i64 x.step, .slice xa x.sent.length xc, .slice pa x.got.length pc, .int .i64 x.waking, .int .i64 x.opn]]) (by simp [Act.eval]) CC.out ?_)
      rintro vr4 w4 ⟨v1, v2, rfl, h1, h2, hb1⟩
      obtain ⟨ya, yc, rfl⟩ := (RowK.own encI_len h1 : InR w4 v1 x.sent).shape
      obtain ⟨za, zc, rfl⟩ := (RowK.own encI_len h2 : InR w4 v2 x.got).shape
      refine ⟨KEEP.out _ hb1, ?_⟩
      simp only [Act.put, List.setIfInBounds_toArray, List.set_cons_zero, List.set_cons_succ]
      have hs4 := hb1.size
      have bA : Below V.heap.size V (w4.alloc (.cells #[.int .i64 x.worker, .int .i64 x.epoch, .int .i64 x.step, .slice ya x.sent.length yc, .slice za x.got.length zc, .int .i64 x.waking, .int .i64 x.opn] 32)) := hb1.alloc hs4 _
      refine oneH (i := 4) rfl (by kernel_rfl) rfl (op_run (d := 45) (v' := .slice (some ⟨w4.heap.size, 0, none⟩) 1 1) (w' := w4.alloc (.cells #[.int .i64 x.worker, .int .i64 x.epoch, .int .i64 x.step, .slice ya x.sent.length yc, .slice za x.got.length zc, .int .i64 x.waking, .int .i64 x.opn] 32)) rfl (by go_simp) ⟨KEEP.out _ bA, ?_⟩)
      simp only [Act.put, List.setIfInBounds_toArray, List.set_cons_zero, List.set_cons_succ]
      have OB2 : OwnR (w4.alloc (.cells #[.int .i64 x.worker, .int .i64 x.epoch, .int .i64 x.step, .slice ya x.sent.length yc, .slice za x.got.length zc, .int .i64 x.waking, .int .i64 x.opn] 32)) w3.heap.size u f := OV.out.below bA (Nat.le_refl _)
      obtain ⟨xs, hrow⟩ := OB2.row
      obtain ⟨g, c, w5, hrun, ho5, hg5⟩ := run_append_rep 22 w3.heap.size u f OB2 w4.heap.size x (.slice ya x.sent.length yc) (.slice za x.got.length zc) (0, 0) (heap_alloc_new _ _) (own_lower (own_below h1 (below_alloc _ _) (Nat.le_refl _)) hsv) (own_lower (own_below h2 (below_alloc _ _) (Nat.le_refl _)) hsv) (by omega) (by have := bA.size; omega)
      have Q5 : Hid (BX 24 w5 w3.heap.size #[.int .i64 b.workers, .int .i64 b.epoch, .int .i64 b.step, u]) := (QV.out.below bA QV.out.lt).grown hrow (by decide) hg5
      have A5 : Hid (Below w3.heap.size w3 w5) := (BV.out.trans (bA.mono hsv)).trans ((Below.refl w3.heap.size _).grown hg5 (by have := bA.size; omega) (fun j hj => (hrow.lt j hj).1))
      have O5 : Hid (OwnR w5 w3.heap.size (.slice (some ⟨g, 0, none⟩) (f.length + 1) c) (b.reps.take (k + 1))) := by show OwnR _ _ _ _; rw [HT.out]; exact ho5
      refine oneH (i := 5) rfl (by kernel_rfl) rfl (call_append (d := 46) (s := .tmp 42) (x := .tmp 45) (t := 22) rfl rfl (v := u) (v2 := .slice (some ⟨w4.heap.size, 0, none⟩) 1 1) (by simp [Act.eval]) (by simp [Act.eval]) hrun ⟨Q5.out.all4.2.2.2, ?_⟩)
      simp only [Act.put, List.setIfInBounds_toArray, List.set_cons_zero, List.set_cons_succ]
      refine takeH (i := 6) (v := .pointer (some ⟨w3.heap.size, 3, none⟩)) (d := 47) rfl rfl (by kernel_rfl) (by kernel_rfl) (by kernel_rfl) (fun _ _ _ h => h) (by rfl) (fun V hV => by have v1 := hV; go_simp) Q5.out.all4.2.2.2 ?_
      simp only [Act.put, List.setIfInBounds_toArray, List.set_cons_zero, List.set_cons_succ]
      refine wpAnyH_done (by kernel_rfl) ?_ _
      clear l0 l1 l2 l3 l4 l5 l6 h1 h2 hb1 bA OB2 hrow hrun ho5 hg5 KEEP bd HSD CC en QV OV SV GV XV BV
      generalize f.length + 1 = tl at *
      obtain ⟨z0, z1, z2, z3⟩ := Q5.out.all4
      obtain ⟨f0, f1, f2, f3⟩ := Q5.out.all4f
      have RR : Hid (BX 24 (w5.setCell ⟨w3.heap.size, 3, none⟩ (.slice (some ⟨g, 0, none⟩) tl c)) w3.heap.size #[.int .i64 b.workers, .int .i64 b.epoch, .int .i64 b.step, .slice (some ⟨g, 0, none⟩) tl c] ∧ OwnR (w5.setCell ⟨w3.heap.size, 3, none⟩ (.slice (some ⟨g, 0, none⟩) tl c)) w3.heap.size (.slice (some ⟨g, 0, none⟩) tl c) (b.reps.take (k + 1)) ∧ Below w3.heap.size w3 (w5.setCell ⟨w3.heap.size, 3, none⟩ (.slice (some ⟨g, 0, none⟩) tl c))) := ⟨Q5.out.set 3 _, O5.out.box Q5.out (by decide) (by decide), A5.out.setCell (Nat.le_refl _) _⟩
      show Oper.wp _ _ _ _ _ _
      clear HT
      go_wp2_with fail
      go_roundw
      case rel => exact ⟨k + 1, _, by omega, by go_num, RR.out.1, RR.out.2.1, RR.out.2.2⟩
      case measure => simp [intOf]; omega
    · have ek : b.reps.take k = b.reps := List.take_of_length_le (by omega)
      rw [ek] at OB
      clear ek
      go_upto_region 14 with fail
      generalize wr = V at *
      have XV : Hid (BX 32 V (w.heap.size + 1) #[.int .i64 r.worker, .int .i64 r.epoch, .int .i64 r.step, .slice sa r.sent.length sc, .slice ga r.got.length gc, .int .i64 r.waking, .int .i64 r.opn]) := (HK.out _ (KW.out _ HB.out)).1.2.1
      have QV : Hid (BX 24 V w3.heap.size #[.int .i64 b.workers, .int .i64 b.epoch, .int .i64 b.step, u]) := QR.out
      have OV : Hid (OwnR V w3.heap.size u b.reps) := OB.out
      have SV : Hid (InR V (.slice sa r.sent.length sc) r.sent) := (HK.out _ (KW.out _ HB.out)).2.2.2.1
      have GV : Hid (InR V (.slice ga r.got.length gc) r.got) := (HK.out _ (KW.out _ HB.out)).2.2.2.2
      have BV : Hid (Below w3.heap.size w3 V) := HB.out
      have hsv := HB.out.size
      have lV : w.heap.size + 1 < V.heap.size := XV.out.lt
      have KEEP : Hid (∀ X, Below V.heap.size V X → X.cell? ⟨w3.heap.size, 3, none⟩ = some u) := fun X hX => (QV.out.below hX QV.out.lt).all4.2.2.2
      have bd : Below V.heap.size V V.drew := (Below.refl _ _).drew
      have HSD : Hid (V.drew.cell? ⟨w3.heap.size, 3, none⟩ = some u) := KEEP.out _ bd
      have CC : Hid (Calls Try.prog 26 #[.agg #[.int .i64 r.worker, .int .i64 r.epoch, .int .i64 r.step, .slice sa r.sent.length sc, .slice ga r.got.length gc, .int .i64 r.waking, .int .i64 r.opn]] V.drew fun e w' => ∃ v, e = .returned v ∧ (∃ vs vg, v = .agg #[.int .i64 r.worker, .int .i64 r.epoch, .int .i64 r.step, vs, vg, .int .i64 r.waking, .int .i64 r.opn] ∧ w'.ownsRow V.heap.size 3 1 vs r.sent.length (r.sent.flatMap encI) ∧ w'.ownsRow V.heap.size 3 1 vg r.got.length (r.got.flatMap encI) ∧ Below V.heap.size V w')) := (apart_any r _ _ V.drew (SV.out.below bd (Nat.le_refl _)) (GV.out.below bd (Nat.le_refl _)) HCC.out).mono fun e w' ⟨vs, vg, h1, h2, h3, h4⟩ => ⟨_, h1, vs, vg, rfl, h2, h3, bd.trans h4⟩
      have en : ∀ args w, (callFunc 26 args).run Try.prog w = .ok (.enter 26 args) w := enters_of Try.func26 (by kernel_rfl) rfl
      refine region_lastF (S := fun X => X.cell? ⟨w3.heap.size, 3, none⟩ = some u) (by kernel_rfl) rfl (by kernel_rfl) (by kernel_rfl) ?_
      simp only [List.pop_toArray, List.dropLast_cons_cons, List.dropLast_singleton, List.size_toArray, List.length_cons, List.length_nil, Nat.reduceAdd]
      refine takeH (i := 0) (v := .pointer (some ⟨w3.heap.size, 3, none⟩)) (d := 49) rfl rfl (by kernel_rfl) (by kernel_rfl) (by kernel_rfl) (fun _ _ _ h => h) (by rfl) (fun V hV => by have v1 := hV; go_simp) HSD.out ?_
      simp only [Act.put, List.setIfInBounds_toArray, List.set_cons_zero, List.set_cons_succ]
      refine takeH (i := 1) (v := u) (d := 50) rfl rfl (by kernel_rfl) (by kernel_rfl) (by kernel_rfl) (fun _ _ _ h => h) (by rfl) (fun V hV => by have v1 := hV; go_simp) HSD.out ?_
      simp only [Act.put, List.setIfInBounds_toArray, List.set_cons_zero, List.set_cons_succ]
      obtain ⟨l0, l1, l2, l3, l4, l5, l6⟩ := (XV.out.below bd lV).all7
      refine oneH (i := 2) rfl (by kernel_rfl) rfl (op_run (d := 51) (v' := .agg #[.int .i64 r.worker, .int .i64 r.epoch, .int .i64 r.step, .slice sa r.sent.length sc, .slice ga r.got.length gc, .int .i64 r.waking, .int .i64 r.opn]) (w' := V.drew) rfl (by go_simp) ⟨HSD.out, ?_⟩)
      simp only [Act.put, List.setIfInBounds_toArray, List.set_cons_zero, List.set_cons_succ]
      refine oneH (i := 3) rfl (by kernel_rfl) rfl (call_gets (d := 52) (f := 26) (xs := #[.tmp 51]) (ats := #[32]) rfl rfl en (vs := #[.agg #[.int .i64 r.worker, .int .i64 r.epoch, .int .i64 r.step, .slice sa r.sent.length sc, .slice ga r.got.length gc, .int .i64 r.waking, .int .i64 r.opn]]) (by simp [Act.eval]) CC.out ?_)
      rintro vr4 w4 ⟨v1, v2, rfl, h1, h2, hb1⟩
      obtain ⟨ya, yc, rfl⟩ := (RowK.own encI_len h1 : InR w4 v1 r.sent).shape
      obtain ⟨za, zc, rfl⟩ := (RowK.own encI_len h2 : InR w4 v2 r.got).shape
      refine ⟨KEEP.out _ hb1, ?_⟩
      simp only [Act.put, List.setIfInBounds_toArray, List.set_cons_zero, List.set_cons_succ]
      have hs4 := hb1.size
      have bA : Below V.heap.size V (w4.alloc (.cells #[.int .i64 r.worker, .int .i64 r.epoch, .int .i64 r.step, .slice ya r.sent.length yc, .slice za r.got.length zc, .int .i64 r.waking, .int .i64 r.opn] 32)) := hb1.alloc hs4 _
      refine oneH (i := 4) rfl (by kernel_rfl) rfl (op_run (d := 53) (v' := .slice (some ⟨w4.heap.size, 0, none⟩) 1 1) (w' := w4.alloc (.cells #[.int .i64 r.worker, .int .i64 r.epoch, .int .i64 r.step, .slice ya r.sent.length yc, .slice za r.got.length zc, .int .i64 r.waking, .int .i64 r.opn] 32)) rfl (by go_simp) ⟨KEEP.out _ bA, ?_⟩)
      simp only [Act.put, List.setIfInBounds_toArray, List.set_cons_zero, List.set_cons_succ]
      have OB2 : OwnR (w4.alloc (.cells #[.int .i64 r.worker, .int .i64 r.epoch, .int .i64 r.step, .slice ya r.sent.length yc, .slice za r.got.length zc, .int .i64 r.waking, .int .i64 r.opn] 32)) w3.heap.size u b.reps := OV.out.below bA (Nat.le_refl _)
      obtain ⟨xs, hrow⟩ := OB2.row
      obtain ⟨g, c, w5, hrun, ho5, hg5⟩ := run_append_rep 22 w3.heap.size u b.reps OB2 w4.heap.size r (.slice ya r.sent.length yc) (.slice za r.got.length zc) (0, 0) (heap_alloc_new _ _) (own_lower (own_below h1 (below_alloc _ _) (Nat.le_refl _)) hsv) (own_lower (own_below h2 (below_alloc _ _) (Nat.le_refl _)) hsv) (by omega) (by have := bA.size; omega)
      have Q5 : Hid (BX 24 w5 w3.heap.size #[.int .i64 b.workers, .int .i64 b.epoch, .int .i64 b.step, u]) := (QV.out.below bA QV.out.lt).grown hrow (by decide) hg5
      have A5 : Hid (Below w3.heap.size w3 w5) := (BV.out.trans (bA.mono hsv)).trans ((Below.refl w3.heap.size _).grown hg5 (by have := bA.size; omega) (fun j hj => (hrow.lt j hj).1))
      have O5 : Hid (OwnR w5 w3.heap.size (.slice (some ⟨g, 0, none⟩) (b.reps.length + 1) c) (b.reps ++ [r])) := by show OwnR _ _ _ _; exact ho5
      refine oneH (i := 5) rfl (by kernel_rfl) rfl (call_append (d := 54) (s := .tmp 50) (x := .tmp 53) (t := 22) rfl rfl (v := u) (v2 := .slice (some ⟨w4.heap.size, 0, none⟩) 1 1) (by simp [Act.eval]) (by simp [Act.eval]) hrun ⟨Q5.out.all4.2.2.2, ?_⟩)
      simp only [Act.put, List.setIfInBounds_toArray, List.set_cons_zero, List.set_cons_succ]
      refine takeH (i := 6) (v := .pointer (some ⟨w3.heap.size, 3, none⟩)) (d := 55) rfl rfl (by kernel_rfl) (by kernel_rfl) (by kernel_rfl) (fun _ _ _ h => h) (by rfl) (fun V hV => by have v1 := hV; go_simp) Q5.out.all4.2.2.2 ?_
      simp only [Act.put, List.setIfInBounds_toArray, List.set_cons_zero, List.set_cons_succ]
      refine wpAnyH_done (by kernel_rfl) ?_ _
      clear l0 l1 l2 l3 l4 l5 l6 h1 h2 hb1 bA OB2 hrow hrun ho5 hg5 KEEP bd HSD CC en QV OV SV GV XV BV
      generalize b.reps.length + 1 = tl at *
      obtain ⟨z0, z1, z2, z3⟩ := Q5.out.all4
      obtain ⟨f0, f1, f2, f3⟩ := Q5.out.all4f
      have RR : Hid (BX 24 (w5.setCell ⟨w3.heap.size, 3, none⟩ (.slice (some ⟨g, 0, none⟩) tl c)) w3.heap.size #[.int .i64 b.workers, .int .i64 b.epoch, .int .i64 b.step, .slice (some ⟨g, 0, none⟩) tl c] ∧ OwnR (w5.setCell ⟨w3.heap.size, 3, none⟩ (.slice (some ⟨g, 0, none⟩) tl c)) w3.heap.size (.slice (some ⟨g, 0, none⟩) tl c) (b.reps ++ [r]) ∧ Below w3.heap.size w3 (w5.setCell ⟨w3.heap.size, 3, none⟩ (.slice (some ⟨g, 0, none⟩) tl c))) := ⟨Q5.out.set 3 _, O5.out.box Q5.out (by decide) (by decide), A5.out.setCell (Nat.le_refl _) _⟩
      show Oper.wp _ _ _ _ _ _
      go_upto_region 15 with fail
      generalize w5.setCell ⟨w3.heap.size, 3, none⟩ (.slice (some ⟨g, 0, none⟩) tl c) = WR at *
      clear z0 z1 z2 z3 f0 f1 f2 f3
      clear b0 b1 b2 b3 q0 q1 q2 q3 q4 q5 q6
      have hXX := KW.out _ RR.out.2.2
      obtain ⟨m0, m1, m2, m3⟩ := (HK.out _ hXX).1.2.2.all4
      obtain ⟨f0, f1, f2, f3⟩ := (HK.out _ hXX).1.2.2.all4f
      have HX : Hid (P (.returned (.tuple #[.agg #[.int .i64 b.workers, .int .i64 b.epoch, .int .i64 b.step, .slice (some ⟨g, 0, none⟩) tl c], .int .i64 0])) (put4 WR (w.heap.size + 2) (.int .i64 b.workers) (.int .i64 b.epoch) (.int .i64 b.step) (.slice (some ⟨g, 0, none⟩) tl c))) := HE.out _ _ ((RR.out.2.1.put4 (HK.out _ hXX).1.2.2 (by decide) (by decide)).lower (by omega)) (below_put4 (HK.out _ hXX).2.1 (by omega) _ _ _ _)
      have RX : Hid (BX 24 (put4 WR (w.heap.size + 2) (.int .i64 b.workers) (.int .i64 b.epoch) (.int .i64 b.step) (.slice (some ⟨g, 0, none⟩) tl c)) (w.heap.size + 2) #[.int .i64 b.workers, .int .i64 b.epoch, .int .i64 b.step, .slice (some ⟨g, 0, none⟩) tl c]) := BX.put4 (HK.out _ hXX).1.2.2
      obtain ⟨z0, z1, z2, z3⟩ := RR.out.1.all4
      clear hXX
      go_wp2_with fail
      obtain ⟨r0, r1, r2, r3⟩ := RX.out.all4
      unfold put4 at r0 r1 r2 r3
      exact bodyPost_ret (v := .tuple #[.agg #[.int .i64 b.workers, .int .i64 b.epoch, .int .i64 b.step, .slice (some ⟨g, 0, none⟩) tl c], .int .i64 0]) (by simp [results, Try.results13, go_sem, r0, r1, r2, r3]) rfl HX.out
end Go.Proofs.Ytpikfiegmnmbmaa
