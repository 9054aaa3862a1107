/-
  Contract of the document's BoardMay.
-/
import Derived.Test.YtpikfiegmnmbmaaRefReport
import Derived.Test.YtpikfiegmnmbmaaQuietBox
namespace Go.Proofs.Ytpikfiegmnmbmaa
set_option maxRecDepth 100000
open Go.ChangeShapes Go.WideShapes Go.ChangeAt Go.RowKit Go.Sort

theorem boardOpened_is {W E S : Int} {f : Int} (h : opE W E S = f) (w : World) : Calls Try.prog 10 #[.int .i64 W, .int .i64 E, .int .i64 S] w fun e w' => ∃ a1 a2 a3, e = .returned (.tuple #[.agg #[.int .i64 a1, .int .i64 a2, .int .i64 a3, .slice none 0 0], .int .i64 f]) ∧ Below w.heap.size w w' :=
  (boardOpened_any W E S w).mono fun e w' h1 => by subst h; exact ⟨_, _, _, h1.1, h1.2⟩

set_option maxHeartbeats 8000000 in
set_option maxRecDepth 100000 in
theorem boardMay_any (b : BdL) (vr : Value) (w : World) (h : RpsR w vr b.reps) :
    Calls Try.prog 27 #[.agg #[.int .i64 b.workers, .int .i64 b.epoch, .int .i64 b.step, vr]] w fun e w' => e = .returned (.bool (mayBd b)) ∧ Below w.heap.size w w' := by
  have HR : Hid (RpsR w vr b.reps) := h
  obtain ⟨ra, rc, rfl⟩ := h.shape
  have hml : b.reps.length ≤ 9223372036854775807 := by obtain ⟨gs, h1, ⟨_, c, e, h2, h3, _⟩, _⟩ := h; rw [← h1, List.length_map]; unfold maxLen at h3; omega
  clear h
  obtain ⟨W0, hW0⟩ : ∃ W0, W0 = w.alloc (.cells #[.int .i64 b.workers, .int .i64 b.epoch, .int .i64 b.step, .slice ra b.reps.length rc] 24) := ⟨_, rfl⟩
  have Q0 : BX 24 W0 w.heap.size #[.int .i64 b.workers, .int .i64 b.epoch, .int .i64 b.step, .slice ra b.reps.length rc] := by rw [hW0]; exact BX.new _ _ _
  have B0 : Below w.heap.size w W0 := by rw [hW0]; exact below_alloc _ _
  have s0 : w.heap.size < W0.heap.size := Q0.lt
  have HK : Hid (∀ X, Below W0.heap.size W0 X → BX 24 X w.heap.size #[.int .i64 b.workers, .int .i64 b.epoch, .int .i64 b.step, .slice ra b.reps.length rc] ∧ Below w.heap.size w X ∧ RpsR X (.slice ra b.reps.length rc) b.reps) := fun X hX => by
    have hb := B0.trans (hX.mono (show w.heap.size ≤ W0.heap.size by omega))
    exact ⟨Q0.below hX s0, hb, HR.out.below hb (Nat.le_refl _)⟩
  have A0 : Hid (Below W0.heap.size W0 W0) := Below.refl _ _
  clear B0 HR
  obtain ⟨b0, b1, b2, b3⟩ := Q0.all4
  clear Q0
  rcases opE_cases b.workers b.epoch b.step with hO | hO
  case inr =>
    have HM : Hid (mayBd b = false) := mayBd_open (by rw [hO]; decide)
    have CO : Hid (∀ X, Calls Try.prog 10 #[.int .i64 b.workers, .int .i64 b.epoch, .int .i64 b.step] X fun e w' => ∃ a1 a2 a3, e = .returned (.tuple #[.agg #[.int .i64 a1, .int .i64 a2, .int .i64 a3, .slice none 0 0], .int .i64 2]) ∧ Below X.heap.size X w') := fun X => boardOpened_is hO X
    rw [HM.out]
    clear hO HM
    go_enter Try.func27, Try.ntmps27
    go_upto_region 1 with fail
    rw [← hW0]
    clear hW0
    go_wp2_with fail
    refine (CO.out _).mono ?_
    rintro e w1 ⟨a1, a2, a3, rfl, hb1⟩
    have A1 : Hid (Below W0.heap.size W0 (w1.alloc (.cells #[.int .i64 a1, .int .i64 a2, .int .i64 a3, .slice none 0 0] 24))) := hb1.alloc hb1.size _
    clear hb1 b0 b1 b2 b3
    go_wp2_with fail
    go_ret
    exact ⟨rfl, (HK.out _ A1.out).2.1⟩
  have CO : Hid (∀ X, Calls Try.prog 10 #[.int .i64 b.workers, .int .i64 b.epoch, .int .i64 b.step] X fun e w' => ∃ a1 a2 a3, e = .returned (.tuple #[.agg #[.int .i64 a1, .int .i64 a2, .int .i64 a3, .slice none 0 0], .int .i64 0]) ∧ Below X.heap.size X w') := fun X => boardOpened_is hO X
  have HO : Hid (opE b.workers b.epoch b.step = 0) := hO
  have HW8 : Hid (1 ≤ b.workers ∧ b.workers ≤ 8) := (opE_zero hO).1
  clear hO
  go_enter Try.func27, Try.ntmps27
  go_upto_region 1 with fail
  rw [← hW0]
  clear hW0
  go_wp2_with fail
  refine (CO.out _).mono ?_
  rintro e w1 ⟨a1, a2, a3, rfl, hb1⟩
  have A1 : Hid (Below W0.heap.size W0 (w1.alloc (.cells #[.int .i64 a1, .int .i64 a2, .int .i64 a3, .slice none 0 0] 24))) := hb1.alloc hb1.size _
  clear hb1 b0 b1 b2 b3 CO
  go_upto_region 2 with fail
  generalize w1.alloc (.cells #[.int .i64 a1, .int .i64 a2, .int .i64 a3, .slice none 0 0] 24) = W1 at *
  obtain ⟨b0, b1, b2, b3⟩ := (HK.out _ A1.out).1.all4
  have hs1 := A1.out.size
  go_wp2_with fail
  go_loopw [5] (fun i wr => ∃ k : Nat, k ≤ b.reps.length ∧ i = .int .i64 k ∧ upB b k ∧ Below W0.heap.size W0 wr) (fun i _ => b.reps.length - (intOf i).toNat)
  case atStart => exact ⟨0, by omega, rfl, upB_zero _, A1.out⟩
  case round =>
    obtain ⟨k, hk, rfl, hup, hbel⟩ := hrel
    have HU : Hid (upB b k) := hup
    have HB : Hid (Below W0.heap.size W0 wr) := hbel
    have hsr := hbel.size
    clear hup hbel b0 b1 b2 b3
    obtain ⟨b0, b1, b2, b3⟩ := (HK.out _ HB.out).1.all4
    by_cases hlt : k < b.reps.length
    · have KR : Hid (RpsR wr (.slice ra b.reps.length rc) b.reps) := (HK.out _ HB.out).2.2
      obtain ⟨rb, off, cap', e1, hcl, hm, lt, hv⟩ := RpsR.at (HK.out _ HB.out).2.2 (by omega)
      unfold maxLen at hm
      injection e1 with e1 e2 e3
      subst e1 e3
      clear e2
      obtain ⟨x, hx⟩ := getX hlt
      obtain ⟨sa, sc, ga, gc, ⟨c0, c1, c2, c3, c4, c5, c6⟩, rs, rg⟩ := hv k x hx
      have HX : Hid (b.reps[k]? = some x) := hx
      clear hv hx
      have g0 := cell_regrown c0
      have g1 := cell_regrown c1
      have g2 := cell_regrown c2
      have g3 := cell_regrown c3
      have g4 := cell_regrown c4
      have g5 := cell_regrown c5
      have g6 := cell_regrown c6
      have g7 := cell_regrown b0
      have g8 := cell_regrown b1
      have g9 := cell_regrown b2
      have g10 := cell_regrown b3
      have ES : ∀ d os, Calls Try.prog 28 #[.agg #[.int .i64 b.workers, .int .i64 b.epoch, .int .i64 b.step, .slice (some ⟨rb, off, none⟩) b.reps.length rc], .agg #[.int .i64 x.worker, .int .i64 x.epoch, .int .i64 x.step, .slice sa x.sent.length sc, .slice ga x.got.length gc, .int .i64 x.waking, .int .i64 x.opn]] (grow (redrawn wr d) os) fun e w'' => e = .returned (.int .i64 (stE b x)) ∧ ∃ p : Regrown, w'' = grow (redrawn wr p.d) p.os := fun d os => Calls.regrown_of (reportFault_any b x _ _ _ _ _ _ (rs.below (below_regrown wr d os) (Nat.le_refl _)) (rg.below (below_regrown wr d os) (Nat.le_refl _)) HW8.out)
      have EH : ∀ d os, Calls Try.prog 29 #[.agg #[.int .i64 b.workers, .int .i64 b.epoch, .int .i64 b.step, .slice (some ⟨rb, off, none⟩) b.reps.length rc], .int .i64 x.worker] (grow (redrawn wr d) os) fun e w'' => e = .returned (.int .i64 (atR b.reps x.worker)) ∧ ∃ p : Regrown, w'' = grow (redrawn wr p.d) p.os := fun d os => Calls.regrown_of (reportBy_any b _ x.worker _ (KR.out.below (below_regrown wr d os) (Nat.le_refl _)))
      clear rs rg
      have H1 : Hid (stE b x ≠ 0 → mayBd b = false) := fun h => mayBd_bad HX.out h
      have H2 : Hid (atR b.reps x.worker ≠ (k : Int) → mayBd b = false) := fun h => mayBd_two HX.out (by
        cases hb : byB (b.reps.take k) x.worker with
        | true => rfl
        | false => exact absurd ((atR_self HX.out).2 hb) h)
      have H3 : Hid (stE b x = 0 → atR b.reps x.worker = (k : Int) → upB b (k + 1)) := fun h1 h2 => upB_step HU.out HX.out h1 ((atR_self HX.out).1 h2)
      generalize atR b.reps x.worker = t2 at *
      generalize stE b x = t1 at *
      have p0 : (0 : Int) ≤ (k : Int) := by omega
      have p1 : (k : Int) < (b.reps.length : Int) := by omega
      go_upto_region 7 with fail
      by_cases h1 : t1 = 0
      case neg =>
        have HA : Hid (mayBd b = false) := H1.out h1
        have e1 : (t1 != 0) = true := by simp [h1]
        clear h1 c0 c1 c2 c3 c4 c5 c6 b0 b1 b2 b3
        refine wp_region_quiet_below (by kernel_rfl) (by kernel_rfl) (QW.out ?_)
        repeat (refine QW.step (fun K hK => ?_); go_simp; first | (refine hK _ ?_; clear hK K) | (apply Exists.intro; refine ⟨fun _ => ?_, hK _ ?_⟩; first | (go_at_call 28; exact ES _ _) | (go_at_call 29; exact EH _ _); clear hK K))
        refine QW.nil ?_
        intro _ hw'
        obtain ⟨⟨dq, osq⟩, hw''⟩ := hw'
        have HB9 : Hid (Below wr.heap.size wr (grow (redrawn wr dq) osq)) := below_regrown wr dq osq
        subst hw''
        generalize grow (redrawn wr dq) osq = W9 at HB9 ⊢
        clear g0 g1 g2 g3 g4 g5 g6 g7 g8 g9 g10 ES EH
        go_wp2_with fail
        go_ret
        exact ⟨ret_bool HA.out.symm, (HK.out _ (HB.out.trans (HB9.out.mono hsr))).2.1⟩
      have e1 : (t1 != 0) = false := by simp [h1]
      have HT : Hid (t1 = 0) := h1
      clear h1
      by_cases h2 : t2 = (k : Int)
      case neg =>
        have HA : Hid (mayBd b = false) := H2.out h2
        have e2 : (t2 != (k : Int)) = true := by simp [h2]
        clear h2 c0 c1 c2 c3 c4 c5 c6 b0 b1 b2 b3
        refine wp_region_quiet_below (by kernel_rfl) (by kernel_rfl) (QW.out ?_)
        repeat (refine QW.step (fun K hK => ?_); go_simp; first | (refine hK _ ?_; clear hK K) | (apply Exists.intro; refine ⟨fun _ => ?_, hK _ ?_⟩; first | (go_at_call 28; exact ES _ _) | (go_at_call 29; exact EH _ _); clear hK K))
        refine QW.nil ?_
        intro _ hw'
        obtain ⟨⟨dq, osq⟩, hw''⟩ := hw'
        have HB9 : Hid (Below wr.heap.size wr (grow (redrawn wr dq) osq)) := below_regrown wr dq osq
        subst hw''
        generalize grow (redrawn wr dq) osq = W9 at HB9 ⊢
        clear g0 g1 g2 g3 g4 g5 g6 g7 g8 g9 g10 ES EH
        go_wp2_with fail
        go_ret
        exact ⟨ret_bool HA.out.symm, (HK.out _ (HB.out.trans (HB9.out.mono hsr))).2.1⟩
      have HU2 : Hid (upB b (k + 1)) := H3.out HT.out h2
      have e2 : (t2 != (k : Int)) = false := by simp [h2]
      clear h2 H2 H3 H1 c0 c1 c2 c3 c4 c5 c6 b0 b1 b2 b3
      refine wp_region_quiet_below (by kernel_rfl) (by kernel_rfl) (QW.out ?_)
      repeat (refine QW.step (fun K hK => ?_); go_simp; first | (refine hK _ ?_; clear hK K) | (apply Exists.intro; refine ⟨fun _ => ?_, hK _ ?_⟩; first | (go_at_call 28; exact ES _ _) | (go_at_call 29; exact EH _ _); clear hK K))
      refine QW.nil ?_
      intro _ hw'
      obtain ⟨⟨dq, osq⟩, hw''⟩ := hw'
      have HB9 : Hid (Below wr.heap.size wr (grow (redrawn wr dq) osq)) := below_regrown wr dq osq
      subst hw''
      generalize grow (redrawn wr dq) osq = W9 at HB9 ⊢
      clear g0 g1 g2 g3 g4 g5 g6 g7 g8 g9 g10 ES EH
      go_wp2_with fail
      go_roundw
      case rel => exact ⟨k + 1, by omega, by go_num, HU2.out, HB.out.trans (HB9.out.mono hsr)⟩
      case measure => simp [intOf]; omega
    · have HA : Hid (mayBd b = true) := mayBd_yes HO.out (by have e : k = b.reps.length := (by omega); have := HU.out; rwa [e] at this)
      go_wp2_with fail
      go_ret
      exact ⟨ret_bool HA.out.symm, (HK.out _ HB.out).2.1⟩
end Go.Proofs.Ytpikfiegmnmbmaa
