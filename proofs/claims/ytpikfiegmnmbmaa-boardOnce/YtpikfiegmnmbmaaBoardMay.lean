/-
  Contract of board.mayBe: may the board be?
-/
import Derived.Test.YtpikfiegmnmbmaaBoardStands
import Derived.Deep.QuietTactic
import Derived.BigQuiet
import Derived.Lib.QuietBelow
namespace Go.Proofs.Ytpikfiegmnmbmaa
set_option maxRecDepth 100000
open Go.ChangeShapes Go.WideShapes Go.ChangeAt Go.RowKit Go.Sort

theorem bOpen_is {W E S : Int} {f : Int} (h : opE W E S = f) (w : World) : Calls Try.prog 9 #[.int .i64 W, .int .i64 E, .int .i64 S] w fun e w' => ∃ a1 a2 a3, e = .returned (.tuple #[.agg #[.int .i64 a1, .int .i64 a2, .int .i64 a3, .slice none 0 0], .int .i64 f]) ∧ Below w.heap.size w w' :=
  (bOpen_any W E S w).mono fun e w' h1 => by subst h; exact ⟨_, _, _, h1.1, h1.2⟩

set_option maxHeartbeats 8000000 in
set_option maxRecDepth 100000 in
theorem bMayBe_any (b : BdL) (vr : Value) (w : World) (h : RpsR w vr b.reps) :
    Calls Try.prog 23 #[.agg #[.int .i64 b.workers, .int .i64 b.epoch, .int .i64 b.step, vr]] w fun e w' => e = .returned (.bool (mayBd b)) ∧ Below w.heap.size w w' := by
  have HR : Hid (RpsR w vr b.reps) := h
  obtain ⟨ra, rc, rfl⟩ := h.shape
  clear h
  obtain ⟨W0, hW0⟩ : ∃ W0, W0 = w.alloc (.cells #[.int .i64 b.workers, .int .i64 b.epoch, .int .i64 b.step, .slice ra b.reps.length rc] 24) := ⟨_, rfl⟩
  have Q0 : BX 24 W0 w.heap.size #[.int .i64 b.workers, .int .i64 b.epoch, .int .i64 b.step, .slice ra b.reps.length rc] := by rw [hW0]; exact BX.new _ _ _
  have B0 : Below w.heap.size w W0 := by rw [hW0]; exact below_alloc _ _
  have s0 : w.heap.size < W0.heap.size := Q0.lt
  have HK : Hid (∀ X, Below W0.heap.size W0 X → BX 24 X w.heap.size #[.int .i64 b.workers, .int .i64 b.epoch, .int .i64 b.step, .slice ra b.reps.length rc] ∧ Below w.heap.size w X ∧ RpsR X (.slice ra b.reps.length rc) b.reps) := fun X hX => by
    have hb := B0.trans (hX.mono (show w.heap.size ≤ W0.heap.size by omega))
    exact ⟨Q0.below hX s0, hb, HR.out.below hb (Nat.le_refl _)⟩
  have A0 : Hid (Below W0.heap.size W0 W0) := Below.refl _ _
  clear B0 HR
  obtain ⟨b0, b1, b2, b3⟩ := Q0.all4
  clear Q0
  rcases opE_cases b.workers b.epoch b.step with hO | hO
  case inr =>
    have HM : Hid (mayBd b = false) := mayBd_open (by rw [hO]; decide)
    have CO : Hid (∀ X, Calls Try.prog 9 #[.int .i64 b.workers, .int .i64 b.epoch, .int .i64 b.step] X fun e w' => ∃ a1 a2 a3, e = .returned (.tuple #[.agg #[.int .i64 a1, .int .i64 a2, .int .i64 a3, .slice none 0 0], .int .i64 2]) ∧ Below X.heap.size X w') := fun X => bOpen_is hO X
    rw [HM.out]
    clear hO HM
    go_enter Try.func23, Try.ntmps23
    go_upto_region 1 with fail
    rw [← hW0]
    clear hW0
    go_wp2_with fail
    refine (CO.out _).mono ?_
    rintro e w1 ⟨a1, a2, a3, rfl, hb1⟩
    have A1 : Hid (Below W0.heap.size W0 (w1.alloc (.cells #[.int .i64 a1, .int .i64 a2, .int .i64 a3, .slice none 0 0] 24))) := hb1.alloc hb1.size _
    clear hb1 b0 b1 b2 b3
    go_wp2_with fail
    go_ret
    exact ⟨rfl, (HK.out _ A1.out).2.1⟩
  have CO : Hid (∀ X, Calls Try.prog 9 #[.int .i64 b.workers, .int .i64 b.epoch, .int .i64 b.step] X fun e w' => ∃ a1 a2 a3, e = .returned (.tuple #[.agg #[.int .i64 a1, .int .i64 a2, .int .i64 a3, .slice none 0 0], .int .i64 0]) ∧ Below X.heap.size X w') := fun X => bOpen_is hO X
  have HO : Hid (opE b.workers b.epoch b.step = 0) := hO
  clear hO
  go_enter Try.func23, Try.ntmps23
  go_upto_region 1 with fail
  rw [← hW0]
  clear hW0
  go_wp2_with fail
  refine (CO.out _).mono ?_
  rintro e w1 ⟨a1, a2, a3, rfl, hb1⟩
  have A1 : Hid (Below W0.heap.size W0 (w1.alloc (.cells #[.int .i64 a1, .int .i64 a2, .int .i64 a3, .slice none 0 0] 24))) := hb1.alloc hb1.size _
  clear hb1 b0 b1 b2 b3 CO
  go_upto_region 2 with fail
  generalize w1.alloc (.cells #[.int .i64 a1, .int .i64 a2, .int .i64 a3, .slice none 0 0] 24) = W1 at *
  obtain ⟨b0, b1, b2, b3⟩ := (HK.out _ A1.out).1.all4
  have hs1 := A1.out.size
  go_wp2_with fail
  go_loopw [22] (fun i wr => ∃ k : Nat, k ≤ b.reps.length ∧ i = .int .i64 k ∧ upB b k ∧ Below W0.heap.size W0 wr) (fun i _ => b.reps.length - (intOf i).toNat)
  case atStart => exact ⟨0, by omega, rfl, upB_zero _, A1.out⟩
  case round =>
    obtain ⟨k, hk, rfl, hup, hbel⟩ := hrel
    have HU : Hid (upB b k) := hup
    have HB : Hid (Below W0.heap.size W0 wr) := hbel
    have hsr := hbel.size
    clear hup hbel b0 b1 b2 b3
    by_cases hlt : k < b.reps.length
    · obtain ⟨rb, off, cap', e1, hcl, hm, lt, hv⟩ := RpsR.at (HK.out _ HB.out).2.2 (by omega)
      unfold maxLen at hm
      injection e1 with e1 e2 e3
      subst e1 e3
      clear e2
      obtain ⟨x, hx⟩ := getX hlt
      obtain ⟨sa, sc, ga, gc, ⟨c0, c1, c2, c3, c4, c5, c6⟩, rs, rg⟩ := hv k x hx
      have HX : Hid (b.reps[k]? = some x) := hx
      clear hv hx
      have hV : Hid (Below W0.heap.size W0 (wr.alloc (.cells #[.int .i64 x.worker, .int .i64 x.epoch, .int .i64 x.step, .slice sa x.sent.length sc, .slice ga x.got.length gc, .int .i64 x.waking, .int .i64 x.opn] 32)) ∧ BX 32 (wr.alloc (.cells #[.int .i64 x.worker, .int .i64 x.epoch, .int .i64 x.step, .slice sa x.sent.length sc, .slice ga x.got.length gc, .int .i64 x.waking, .int .i64 x.opn] 32)) wr.heap.size #[.int .i64 x.worker, .int .i64 x.epoch, .int .i64 x.step, .slice sa x.sent.length sc, .slice ga x.got.length gc, .int .i64 x.waking, .int .i64 x.opn] ∧ InR (wr.alloc (.cells #[.int .i64 x.worker, .int .i64 x.epoch, .int .i64 x.step, .slice sa x.sent.length sc, .slice ga x.got.length gc, .int .i64 x.waking, .int .i64 x.opn] 32)) (.slice sa x.sent.length sc) x.sent ∧ InR (wr.alloc (.cells #[.int .i64 x.worker, .int .i64 x.epoch, .int .i64 x.step, .slice sa x.sent.length sc, .slice ga x.got.length gc, .int .i64 x.waking, .int .i64 x.opn] 32)) (.slice ga x.got.length gc) x.got ∧ wr.heap.size < (wr.alloc (.cells #[.int .i64 x.worker, .int .i64 x.epoch, .int .i64 x.step, .slice sa x.sent.length sc, .slice ga x.got.length gc, .int .i64 x.waking, .int .i64 x.opn] 32)).heap.size) := ⟨HB.out.alloc hsr _, BX.new _ _ _, rs.below (below_alloc _ _) (Nat.le_refl _), rg.below (below_alloc _ _) (Nat.le_refl _), by simp⟩
      clear rs rg
      go_upto_region 7 with fail
      generalize wr.alloc (.cells #[.int .i64 x.worker, .int .i64 x.epoch, .int .i64 x.step, .slice sa x.sent.length sc, .slice ga x.got.length gc, .int .i64 x.waking, .int .i64 x.opn] 32) = V at *
      generalize wr.heap.size = q at *
      obtain ⟨bV, xV, sV, gV, lV⟩ := hV.out
      obtain ⟨KB, KW, KR⟩ := HK.out _ bV
      have BV : Hid (Below W0.heap.size W0 V) := bV
      have BW : Hid (Below w.heap.size w V) := KW
      clear c0 c1 c2 c3 c4 c5 c6
      obtain ⟨c0, c1, c2, c3, c4, c5, c6⟩ := xV.all7
      obtain ⟨b0, b1, b2, b3⟩ := KB.all4
      have g0 := cell_regrown c0
      have g1 := cell_regrown c1
      have g2 := cell_regrown c2
      have g3 := cell_regrown c3
      have g4 := cell_regrown c4
      have g5 := cell_regrown c5
      have g6 := cell_regrown c6
      have g7 := cell_regrown b0
      have g8 := cell_regrown b1
      have g9 := cell_regrown b2
      have g10 := cell_regrown b3
      have ES : ∀ d os, Calls Try.prog 24 #[.agg #[.int .i64 b.workers, .int .i64 b.epoch, .int .i64 b.step, .slice (some ⟨rb, off, none⟩) b.reps.length rc], .agg #[.int .i64 x.worker, .int .i64 x.epoch, .int .i64 x.step, .slice sa x.sent.length sc, .slice ga x.got.length gc, .int .i64 x.waking, .int .i64 x.opn]] (grow (redrawn V d) os) fun e w'' => e = .returned (.int .i64 (stE b x)) ∧ ∃ p : Regrown, w'' = grow (redrawn V p.d) p.os := fun d os => Calls.regrown_of (stands_any b x _ _ _ _ _ _ (sV.below (below_regrown V d os) (Nat.le_refl _)) (gV.below (below_regrown V d os) (Nat.le_refl _)))
      have EH : ∀ d os, Calls Try.prog 25 #[.slice (some ⟨rb, off, none⟩) k rc, .int .i64 x.worker] (grow (redrawn V d) os) fun e w'' => e = .returned (.bool (byB (b.reps.take k) x.worker)) ∧ ∃ p : Regrown, w'' = grow (redrawn V p.d) p.os := fun d os => Calls.regrown_of (heardOf_any _ _ x.worker _ ((KR.take (by omega)).below (below_regrown V d os) (Nat.le_refl _)))
      clear c0 c1 c2 c3 c4 c5 c6 b0 b1 b2 b3 hV bV xV sV gV KB KW KR
      have H1 : Hid (stE b x ≠ 0 → mayBd b = false) := fun h => mayBd_bad HX.out h
      have H2 : Hid (byB (b.reps.take k) x.worker = true → mayBd b = false) := fun h => mayBd_two HX.out h
      have H3 : Hid (stE b x = 0 → byB (b.reps.take k) x.worker = false → upB b (k + 1)) := fun h1 h2 => upB_step HU.out HX.out h1 h2
      generalize byB (b.reps.take k) x.worker = t2 at *
      generalize stE b x = t1 at *
      have hkc : k ≤ rc := by omega
      have hkc2 : (k : Int) ≤ (rc : Int) := by omega
      by_cases h1 : t1 = 0
      case neg =>
        have HA : Hid (mayBd b = false) := H1.out h1
        have e1 : (t1 != 0) = true := by simp [h1]
        clear h1
        refine wp_region_quiet_below (by kernel_rfl) (by kernel_rfl) ?_
        repeat (quiet_step (first | (go_at_call 24; exact ES _ _) | (go_at_call 25; exact EH _ _)))
        refine wpQuiet_nil ?_
        intro _ hw'
        obtain ⟨⟨dq, osq⟩, hw''⟩ := hw'
        have HB9 : Hid (Below V.heap.size V (grow (redrawn V dq) osq)) := below_regrown V dq osq
        subst hw''
        generalize grow (redrawn V dq) osq = W9 at HB9 ⊢
        clear g0 g1 g2 g3 g4 g5 g6 g7 g8 g9 g10 ES EH
        go_wp2_with fail
        go_ret
        exact ⟨ret_bool HA.out.symm, BW.out.trans (HB9.out.mono BW.out.size)⟩
      have e1 : (t1 != 0) = false := by simp [h1]
      have HT : Hid (t1 = 0) := h1
      clear h1
      cases t2
      case true =>
        have HA : Hid (mayBd b = false) := H2.out rfl
        refine wp_region_quiet_below (by kernel_rfl) (by kernel_rfl) ?_
        repeat (quiet_step (first | (go_at_call 24; exact ES _ _) | (go_at_call 25; exact EH _ _)))
        refine wpQuiet_nil ?_
        intro _ hw'
        obtain ⟨⟨dq, osq⟩, hw''⟩ := hw'
        have HB9 : Hid (Below V.heap.size V (grow (redrawn V dq) osq)) := below_regrown V dq osq
        subst hw''
        generalize grow (redrawn V dq) osq = W9 at HB9 ⊢
        clear g0 g1 g2 g3 g4 g5 g6 g7 g8 g9 g10 ES EH
        go_wp2_with fail
        go_ret
        exact ⟨ret_bool HA.out.symm, BW.out.trans (HB9.out.mono BW.out.size)⟩
      have HU2 : Hid (upB b (k + 1)) := H3.out HT.out rfl
      refine wp_region_quiet_below (by kernel_rfl) (by kernel_rfl) ?_
      repeat (quiet_step (first | (go_at_call 24; exact ES _ _) | (go_at_call 25; exact EH _ _)))
      refine wpQuiet_nil ?_
      intro _ hw'
      obtain ⟨⟨dq, osq⟩, hw''⟩ := hw'
      have HB9 : Hid (Below V.heap.size V (grow (redrawn V dq) osq)) := below_regrown V dq osq
      subst hw''
      generalize grow (redrawn V dq) osq = W9 at HB9 ⊢
      clear g0 g1 g2 g3 g4 g5 g6 g7 g8 g9 g10 ES EH
      go_wp2_with fail
      go_roundw
      case rel => exact ⟨k + 1, by omega, by go_num, HU2.out, BV.out.trans (HB9.out.mono BV.out.size)⟩
      case measure => simp [intOf]; omega
    · have HA : Hid (mayBd b = true) := mayBd_yes HO.out (by have e : k = b.reps.length := (by omega); have := HU.out; rwa [e] at this)
      go_wp2_with fail
      go_ret
      exact ⟨ret_bool HA.out.symm, (HK.out _ HB.out).2.1⟩
end Go.Proofs.Ytpikfiegmnmbmaa
