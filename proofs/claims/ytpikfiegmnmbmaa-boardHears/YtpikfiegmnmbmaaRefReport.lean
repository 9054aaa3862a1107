/-
  Contracts of the document's countsMay, reportBy and ReportFault.
-/
import Derived.Test.YtpikfiegmnmbmaaRefBoardOpen
import Derived.Test.YtpikfiegmnmbmaaBoardStands
namespace Go.Proofs.Ytpikfiegmnmbmaa
set_option maxRecDepth 100000
open Go.ChangeShapes Go.WideShapes Go.ChangeAt Go.RowKit

theorem numB_in (n : Int) : inB n 0 1099511627776 = numB n := by
  cases h : numB n with
  | false => exact in_no (numB_no.1 h)
  | true => exact in_yes (numB_iff.1 h)
theorem cntB_len {W : Int} {l : List Int} (h : ¬ (l.length : Int) = W) : cntB W l = false := by
  rw [← Bool.not_eq_true, cntB_iff]
  exact fun g => h g.1
theorem cntB_hit {W : Int} {l : List Int} {k : Nat} {x : Int} (hx : l[k]? = some x) (h : numB x = false) : cntB W l = false := by
  rw [← Bool.not_eq_true, cntB_iff]
  intro g
  have := g.2 x (List.mem_of_getElem? hx)
  rw [h] at this
  cases this
theorem cntB_yes {W : Int} {l : List Int} (h : (l.length : Int) = W) (h2 : l.all numB = true) : cntB W l = true := cntB_iff.2 ⟨h, List.all_eq_true.1 h2⟩

set_option maxHeartbeats 1000000 in
set_option maxRecDepth 100000 in
theorem countsMay_any (v : Value) (l : List Int) (W : Int) (w : World) (h : InR w v l) :
    Calls Try.prog 37 #[v, .int .i64 W] w fun e w' => e = .returned (.bool (cntB W l)) ∧ Below w.heap.size w w' := by
  have HR : Hid (InR w v l) := h
  obtain ⟨a, cap, rfl, hc, hm, _, _⟩ := h
  unfold maxLen at hm
  by_cases hl : (l.length : Int) = W
  case neg =>
    rw [cntB_len hl]
    go_enter Try.func37, Try.ntmps37
    go_wp2_with fail
    go_ret
    exact ⟨rfl, Below.refl _ _⟩
  have HL : Hid ((l.length : Int) = W) := hl
  have tl : ((l.length : Int) != W) = false := by simp [hl]
  clear hl
  go_enter Try.func37, Try.ntmps37
  go_wp2_with fail
  go_loopw [5] (fun i wr => ∃ k : Nat, k ≤ l.length ∧ i = .int .i64 k ∧ (l.take k).all numB = true ∧ Below w.heap.size w wr) (fun i _ => l.length - (intOf i).toNat)
  case atStart => exact ⟨0, by omega, rfl, rfl, Below.refl _ _⟩
  case round =>
    obtain ⟨k, hk, rfl, hno, hbel⟩ := hrel
    have HNO : Hid ((l.take k).all numB = true) := hno
    have HB : Hid (Below w.heap.size w wr) := hbel
    clear hno hbel
    by_cases hlt : k < l.length
    · obtain ⟨b, off, cap', e1, _, _, lt, hv⟩ := InR.at (HR.out.below HB.out (Nat.le_refl _)) (by omega)
      injection e1 with e1 e2 e3
      subst e1 e3
      clear e2
      obtain ⟨x, hx⟩ := getX hlt
      have c1 := hv k x hx
      have HX : Hid (l[k]? = some x) := hx
      clear hv hx
      cases ho : numB x
      · have HA : Hid (cntB W l = false) := cntB_hit HX.out ho
        have CI : Hid (∀ X, Calls Try.prog 20 #[.int .i64 x, .int .i64 0, .int .i64 1099511627776] X fun e w' => e = .returned (.bool false) ∧ w' = X) := fun X => in_isN (by rw [numB_in, ho]) X
        clear ho
        go_wp2_with fail
        refine (CI.out _).mono ?_
        rintro e w2 ⟨rfl, e2⟩
        have hb2 : Hid (Below w.heap.size w w2) := by rw [e2]; exact HB.out
        clear e2
        go_wp2_with fail
        go_ret
        exact ⟨ret_bool HA.out.symm, hb2.out⟩
      · have HN2 : Hid ((l.take (k + 1)).all numB = true) := numB_cut HX.out HNO.out ho
        have CI : Hid (∀ X, Calls Try.prog 20 #[.int .i64 x, .int .i64 0, .int .i64 1099511627776] X fun e w' => e = .returned (.bool true) ∧ w' = X) := fun X => in_isN (by rw [numB_in, ho]) X
        clear ho
        go_wp2_with fail
        refine (CI.out _).mono ?_
        rintro e w2 ⟨rfl, e2⟩
        have hb2 : Hid (Below w.heap.size w w2) := by rw [e2]; exact HB.out
        clear e2
        go_wp2_with fail
        go_roundw
        case rel => exact ⟨k + 1, by omega, by go_num, HN2.out, hb2.out⟩
        case measure => simp [intOf]; omega
    · have ek : l.take k = l := List.take_of_length_le (by omega)
      have HA : Hid (cntB W l = true) := cntB_yes HL.out (by have := HNO.out; rwa [ek] at this)
      clear ek
      go_wp2_with fail
      go_ret
      exact ⟨ret_bool HA.out.symm, HB.out⟩

set_option maxHeartbeats 1000000 in
set_option maxRecDepth 100000 in
theorem reportBy_any (b : BdL) (vr : Value) (n : Int) (w : World) (h : RpsR w vr b.reps) :
    Calls Try.prog 29 #[.agg #[.int .i64 b.workers, .int .i64 b.epoch, .int .i64 b.step, vr], .int .i64 n] w (NoP w (atR b.reps n)) := by
  have HR : Hid (RpsR w vr b.reps) := h
  obtain ⟨ra, rc, rfl⟩ := h.shape
  have hml : b.reps.length ≤ 9223372036854775807 := by obtain ⟨gs, h1, ⟨_, c, e, h2, h3, _⟩, _⟩ := h; rw [← h1, List.length_map]; unfold maxLen at h3; omega
  clear h
  obtain ⟨W0, hW0⟩ : ∃ W0, W0 = w.alloc (.cells #[.int .i64 b.workers, .int .i64 b.epoch, .int .i64 b.step, .slice ra b.reps.length rc] 24) := ⟨_, rfl⟩
  have Q0 : BX 24 W0 w.heap.size #[.int .i64 b.workers, .int .i64 b.epoch, .int .i64 b.step, .slice ra b.reps.length rc] := by rw [hW0]; exact BX.new _ _ _
  have B0 : Below w.heap.size w W0 := by rw [hW0]; exact below_alloc _ _
  have s0 : w.heap.size < W0.heap.size := Q0.lt
  have HK : Hid (∀ X, Below W0.heap.size W0 X → BX 24 X w.heap.size #[.int .i64 b.workers, .int .i64 b.epoch, .int .i64 b.step, .slice ra b.reps.length rc] ∧ Below w.heap.size w X ∧ RpsR X (.slice ra b.reps.length rc) b.reps) := fun X hX => by
    have hb := B0.trans (hX.mono (show w.heap.size ≤ W0.heap.size by omega))
    exact ⟨Q0.below hX s0, hb, HR.out.below hb (Nat.le_refl _)⟩
  have A0 : Hid (Below W0.heap.size W0 W0) := Below.refl _ _
  clear B0 HR
  obtain ⟨b0, b1, b2, b3⟩ := Q0.all4
  clear Q0
  have HE : Hid (∀ (f : Int) w', f = atR b.reps n → Below w.heap.size w w' → NoP w (atR b.reps n) (.returned (.int .i64 f)) w') := fun f w' h1 h2 => ⟨by rw [h1], h2⟩
  generalize NoP w (atR b.reps n) = P at *
  go_enter Try.func29, Try.ntmps29
  go_upto_region 1 with fail
  rw [← hW0]
  clear hW0
  go_wp2_with fail
  go_loopw [5] (fun i wr => ∃ k : Nat, k ≤ b.reps.length ∧ i = .int .i64 k ∧ byB (b.reps.take k) n = false ∧ Below W0.heap.size W0 wr) (fun i _ => b.reps.length - (intOf i).toNat)
  case atStart => exact ⟨0, by omega, rfl, rfl, A0.out⟩
  case round =>
    obtain ⟨k, hk, rfl, hup, hbel⟩ := hrel
    have HU : Hid (byB (b.reps.take k) n = false) := hup
    have HB : Hid (Below W0.heap.size W0 wr) := hbel
    clear hup hbel b0 b1 b2 b3
    obtain ⟨b0, b1, b2, b3⟩ := (HK.out _ HB.out).1.all4
    by_cases hlt : k < b.reps.length
    · obtain ⟨rb, off, cap', e1, hcl, hm, lt, hv⟩ := RpsR.at (HK.out _ HB.out).2.2 (by omega)
      unfold maxLen at hm
      injection e1 with e1 e2 e3
      subst e1 e3
      clear e2
      obtain ⟨x, hx⟩ := getX hlt
      obtain ⟨sa, sc, ga, gc, ⟨c0, c1, c2, c3, c4, c5, c6⟩, _, _⟩ := hv k x hx
      have HX : Hid (b.reps[k]? = some x) := hx
      clear hv hx c1 c2 c3 c4 c5 c6
      by_cases ho : x.worker = n
      · have HA : Hid ((k : Int) = atR b.reps n) := (atR_hit HX.out ho HU.out).symm
        have tw : (x.worker == n) = true := by simpa using ho
        generalize x.worker = xw at *
        clear ho
        go_wp2_with fail
        exact HE.out _ _ HA.out (HK.out _ HB.out).2.1
      · have HN2 : Hid (byB (b.reps.take (k + 1)) n = false) := byB_cut HX.out HU.out ho
        have tw : (x.worker == n) = false := by simpa using ho
        generalize x.worker = xw at *
        clear ho
        go_wp2_with fail
        go_roundw
        case rel => exact ⟨k + 1, by omega, by go_num, HN2.out, HB.out⟩
        case measure => simp [intOf]; omega
    · have ek : b.reps.take k = b.reps := List.take_of_length_le (by omega)
      have HA : Hid ((-1 : Int) = atR b.reps n) := (atR_none (by have := HU.out; rwa [ek] at this)).symm
      clear ek
      go_wp2_with fail
      exact HE.out _ _ HA.out (HK.out _ HB.out).2.1

set_option maxHeartbeats 8000000 in
set_option maxRecDepth 100000 in
theorem reportFault_any (b : BdL) (r : RpL) (ra : Option Addr) (n rc : Nat) (vs vg : Value) (w : World) (hs : InR w vs r.sent) (hg : InR w vg r.got) (hW : 1 ≤ b.workers ∧ b.workers ≤ 8) :
    Calls Try.prog 28 #[.agg #[.int .i64 b.workers, .int .i64 b.epoch, .int .i64 b.step, .slice ra n rc], .agg #[.int .i64 r.worker, .int .i64 r.epoch, .int .i64 r.step, vs, vg, .int .i64 r.waking, .int .i64 r.opn]] w (NoP w (stE b r)) := by
  have HS : Hid (InR w vs r.sent) := hs
  have HG : Hid (InR w vg r.got) := hg
  obtain ⟨sa, sc, rfl, hsc, hsm, _, _⟩ := hs
  obtain ⟨ga, gc, rfl, hgc, hgm, _, _⟩ := hg
  unfold maxLen at hsm hgm
  obtain ⟨W0, hW0⟩ : ∃ W0, W0 = (w.alloc (.cells #[.int .i64 b.workers, .int .i64 b.epoch, .int .i64 b.step, .slice ra n rc] 24)).alloc (.cells #[.int .i64 r.worker, .int .i64 r.epoch, .int .i64 r.step, .slice sa r.sent.length sc, .slice ga r.got.length gc, .int .i64 r.waking, .int .i64 r.opn] 32) := ⟨_, rfl⟩
  obtain ⟨Q0, M0, B0, s1, s2⟩ := boxes2 w #[.int .i64 b.workers, .int .i64 b.epoch, .int .i64 b.step, .slice ra n rc] #[.int .i64 r.worker, .int .i64 r.epoch, .int .i64 r.step, .slice sa r.sent.length sc, .slice ga r.got.length gc, .int .i64 r.waking, .int .i64 r.opn] 24 32 W0 hW0
  have HK : Hid (∀ X, Below W0.heap.size W0 X → BX 24 X w.heap.size #[.int .i64 b.workers, .int .i64 b.epoch, .int .i64 b.step, .slice ra n rc] ∧ BX 32 X (w.heap.size + 1) #[.int .i64 r.worker, .int .i64 r.epoch, .int .i64 r.step, .slice sa r.sent.length sc, .slice ga r.got.length gc, .int .i64 r.waking, .int .i64 r.opn] ∧ Below w.heap.size w X ∧ InR X (.slice sa r.sent.length sc) r.sent ∧ InR X (.slice ga r.got.length gc) r.got) := fun X hX => by
    have hb := B0.trans (hX.mono (show w.heap.size ≤ W0.heap.size by omega))
    exact ⟨Q0.below hX (by omega), M0.below hX (by omega), hb, HS.out.below hb (Nat.le_refl _), HG.out.below hb (Nat.le_refl _)⟩
  have A0 : Hid (Below W0.heap.size W0 W0) := Below.refl _ _
  clear Q0 M0 B0 HS HG s1 s2
  have HN : Hid (inR b.workers r = false → ∀ w', Below w.heap.size w w' → NoP w (stE b r) (.returned (.int .i64 2)) w') := fun h w' hb => ⟨by rw [stE_no h], hb⟩
  have HI : Hid (inR b.workers r = true → ¬ (r.epoch = b.epoch ∧ r.step = b.step) → ∀ w', Below w.heap.size w w' → NoP w (stE b r) (.returned (.int .i64 11)) w') := fun h h2 w' hb => ⟨by rw [stE_epoch h h2], hb⟩
  have HY : Hid (inR b.workers r = true → (r.epoch = b.epoch ∧ r.step = b.step) → ∀ w', Below w.heap.size w w' → NoP w (stE b r) (.returned (.int .i64 0)) w') := fun h h2 w' hb => ⟨by rw [stE_yes h h2], hb⟩
  have EI : Hid (inR b.workers r = (decide (0 ≤ r.worker ∧ r.worker < b.workers) && (cntB b.workers r.sent && (cntB b.workers r.got && (numB r.waking && numB r.opn))))) := rfl
  generalize NoP w (stE b r) = P at *
  by_cases h0 : 0 ≤ r.worker ∧ r.worker ≤ b.workers - 1
  case neg =>
    have C1 : Hid (∀ X, Calls Try.prog 20 #[.int .i64 r.worker, .int .i64 0, .int .i64 (b.workers - 1)] X fun e w' => e = .returned (.bool false) ∧ w' = X) := fun X => in_isN (in_no h0) X
    have HE : Hid (∀ w', Below w.heap.size w w' → P (.returned (.int .i64 2)) w') := HN.out (by rw [EI.out, decide_eq_false (fun h => h0 ⟨h.1, by omega⟩)]; rfl)
    clear HN HI HY EI
    go_enter Try.func28, Try.ntmps28
    go_upto_region 1 with fail
    rw [← hW0]
    clear hW0
    obtain ⟨KB, KR, _, _, _⟩ := HK.out _ A0.out
    obtain ⟨b0, b1, b2, b3⟩ := KB.all4
    obtain ⟨q0, q1, q2, q3, q4, q5, q6⟩ := KR.all7
    clear KB KR
    go_wp2_with fail
    refine (C1.out _).mono ?_
    rintro e w1 ⟨rfl, e2⟩
    have A1 : Hid (Below W0.heap.size W0 w1) := by rw [e2]; exact A0.out
    clear e2
    clear b0 b1 b2 b3 q0 q1 q2 q3 q4 q5 q6
    obtain ⟨KB, KR, _, _, _⟩ := HK.out _ A1.out
    obtain ⟨b0, b1, b2, b3⟩ := KB.all4
    obtain ⟨q0, q1, q2, q3, q4, q5, q6⟩ := KR.all7
    clear KB KR
    go_wp2_with fail
    exact HE.out _ (HK.out _ A1.out).2.2.1
  have C1 : Hid (∀ X, Calls Try.prog 20 #[.int .i64 r.worker, .int .i64 0, .int .i64 (b.workers - 1)] X fun e w' => e = .returned (.bool true) ∧ w' = X) := fun X => in_isN (in_yes h0) X
  have d0 : decide (0 ≤ r.worker ∧ r.worker < b.workers) = true := decide_eq_true ⟨h0.1, by omega⟩
  rw [d0] at EI
  clear d0
  cases hc2 : cntB b.workers r.sent
  case false =>
    have C2 : Hid (∀ X v, InR X v r.sent → Calls Try.prog 37 #[v, .int .i64 b.workers] X fun e w' => e = .returned (.bool false) ∧ Below X.heap.size X w') := fun X v h => (by have := countsMay_any v _ b.workers X h; rwa [hc2] at this)
    have HE : Hid (∀ w', Below w.heap.size w w' → P (.returned (.int .i64 2)) w') := HN.out (by rw [EI.out, hc2]; simp)
    clear HN HI HY EI
    go_enter Try.func28, Try.ntmps28
    go_upto_region 1 with fail
    rw [← hW0]
    clear hW0
    obtain ⟨KB, KR, _, _, _⟩ := HK.out _ A0.out
    obtain ⟨b0, b1, b2, b3⟩ := KB.all4
    obtain ⟨q0, q1, q2, q3, q4, q5, q6⟩ := KR.all7
    clear KB KR
    go_wp2_with fail
    refine (C1.out _).mono ?_
    rintro e w1 ⟨rfl, e2⟩
    have A1 : Hid (Below W0.heap.size W0 w1) := by rw [e2]; exact A0.out
    clear e2
    clear b0 b1 b2 b3 q0 q1 q2 q3 q4 q5 q6
    obtain ⟨KB, KR, _, _, _⟩ := HK.out _ A1.out
    obtain ⟨b0, b1, b2, b3⟩ := KB.all4
    obtain ⟨q0, q1, q2, q3, q4, q5, q6⟩ := KR.all7
    clear KB KR
    go_wp2_with fail
    refine (C2.out _ _ (HK.out _ A1.out).2.2.2.1).mono ?_
    rintro e w2 ⟨rfl, hb⟩
    have A2 : Hid (Below W0.heap.size W0 w2) := A1.out.trans (hb.mono A1.out.size)
    clear hb
    clear b0 b1 b2 b3 q0 q1 q2 q3 q4 q5 q6
    obtain ⟨KB, KR, _, _, _⟩ := HK.out _ A2.out
    obtain ⟨b0, b1, b2, b3⟩ := KB.all4
    obtain ⟨q0, q1, q2, q3, q4, q5, q6⟩ := KR.all7
    clear KB KR
    go_wp2_with fail
    exact HE.out _ (HK.out _ A2.out).2.2.1
  have C2 : Hid (∀ X v, InR X v r.sent → Calls Try.prog 37 #[v, .int .i64 b.workers] X fun e w' => e = .returned (.bool true) ∧ Below X.heap.size X w') := fun X v h => (by have := countsMay_any v _ b.workers X h; rwa [hc2] at this)
  cases hc3 : cntB b.workers r.got
  case false =>
    have C3 : Hid (∀ X v, InR X v r.got → Calls Try.prog 37 #[v, .int .i64 b.workers] X fun e w' => e = .returned (.bool false) ∧ Below X.heap.size X w') := fun X v h => (by have := countsMay_any v _ b.workers X h; rwa [hc3] at this)
    have HE : Hid (∀ w', Below w.heap.size w w' → P (.returned (.int .i64 2)) w') := HN.out (by rw [EI.out, hc3]; simp)
    clear HN HI HY EI
    go_enter Try.func28, Try.ntmps28
    go_upto_region 1 with fail
    rw [← hW0]
    clear hW0
    obtain ⟨KB, KR, _, _, _⟩ := HK.out _ A0.out
    obtain ⟨b0, b1, b2, b3⟩ := KB.all4
    obtain ⟨q0, q1, q2, q3, q4, q5, q6⟩ := KR.all7
    clear KB KR
    go_wp2_with fail
    refine (C1.out _).mono ?_
    rintro e w1 ⟨rfl, e2⟩
    have A1 : Hid (Below W0.heap.size W0 w1) := by rw [e2]; exact A0.out
    clear e2
    clear b0 b1 b2 b3 q0 q1 q2 q3 q4 q5 q6
    obtain ⟨KB, KR, _, _, _⟩ := HK.out _ A1.out
    obtain ⟨b0, b1, b2, b3⟩ := KB.all4
    obtain ⟨q0, q1, q2, q3, q4, q5, q6⟩ := KR.all7
    clear KB KR
    go_wp2_with fail
    refine (C2.out _ _ (HK.out _ A1.out).2.2.2.1).mono ?_
    rintro e w2 ⟨rfl, hb⟩
    have A2 : Hid (Below W0.heap.size W0 w2) := A1.out.trans (hb.mono A1.out.size)
    clear hb
    clear b0 b1 b2 b3 q0 q1 q2 q3 q4 q5 q6
    obtain ⟨KB, KR, _, _, _⟩ := HK.out _ A2.out
    obtain ⟨b0, b1, b2, b3⟩ := KB.all4
    obtain ⟨q0, q1, q2, q3, q4, q5, q6⟩ := KR.all7
    clear KB KR
    go_wp2_with fail
    refine (C3.out _ _ (HK.out _ A2.out).2.2.2.2).mono ?_
    rintro e w3 ⟨rfl, hb⟩
    have A3 : Hid (Below W0.heap.size W0 w3) := A2.out.trans (hb.mono A2.out.size)
    clear hb
    clear b0 b1 b2 b3 q0 q1 q2 q3 q4 q5 q6
    obtain ⟨KB, KR, _, _, _⟩ := HK.out _ A3.out
    obtain ⟨b0, b1, b2, b3⟩ := KB.all4
    obtain ⟨q0, q1, q2, q3, q4, q5, q6⟩ := KR.all7
    clear KB KR
    go_wp2_with fail
    exact HE.out _ (HK.out _ A3.out).2.2.1
  have C3 : Hid (∀ X v, InR X v r.got → Calls Try.prog 37 #[v, .int .i64 b.workers] X fun e w' => e = .returned (.bool true) ∧ Below X.heap.size X w') := fun X v h => (by have := countsMay_any v _ b.workers X h; rwa [hc3] at this)
  cases hc4 : numB r.waking
  case false =>
    have C4 : Hid (∀ X, Calls Try.prog 20 #[.int .i64 r.waking, .int .i64 0, .int .i64 1099511627776] X fun e w' => e = .returned (.bool false) ∧ w' = X) := fun X => in_isN (by rw [numB_in, hc4]) X
    have HE : Hid (∀ w', Below w.heap.size w w' → P (.returned (.int .i64 2)) w') := HN.out (by rw [EI.out, hc4]; simp)
    clear HN HI HY EI
    go_enter Try.func28, Try.ntmps28
    go_upto_region 1 with fail
    rw [← hW0]
    clear hW0
    obtain ⟨KB, KR, _, _, _⟩ := HK.out _ A0.out
    obtain ⟨b0, b1, b2, b3⟩ := KB.all4
    obtain ⟨q0, q1, q2, q3, q4, q5, q6⟩ := KR.all7
    clear KB KR
    go_wp2_with fail
    refine (C1.out _).mono ?_
    rintro e w1 ⟨rfl, e2⟩
    have A1 : Hid (Below W0.heap.size W0 w1) := by rw [e2]; exact A0.out
    clear e2
    clear b0 b1 b2 b3 q0 q1 q2 q3 q4 q5 q6
    obtain ⟨KB, KR, _, _, _⟩ := HK.out _ A1.out
    obtain ⟨b0, b1, b2, b3⟩ := KB.all4
    obtain ⟨q0, q1, q2, q3, q4, q5, q6⟩ := KR.all7
    clear KB KR
    go_wp2_with fail
    refine (C2.out _ _ (HK.out _ A1.out).2.2.2.1).mono ?_
    rintro e w2 ⟨rfl, hb⟩
    have A2 : Hid (Below W0.heap.size W0 w2) := A1.out.trans (hb.mono A1.out.size)
    clear hb
    clear b0 b1 b2 b3 q0 q1 q2 q3 q4 q5 q6
    obtain ⟨KB, KR, _, _, _⟩ := HK.out _ A2.out
    obtain ⟨b0, b1, b2, b3⟩ := KB.all4
    obtain ⟨q0, q1, q2, q3, q4, q5, q6⟩ := KR.all7
    clear KB KR
    go_wp2_with fail
    refine (C3.out _ _ (HK.out _ A2.out).2.2.2.2).mono ?_
    rintro e w3 ⟨rfl, hb⟩
    have A3 : Hid (Below W0.heap.size W0 w3) := A2.out.trans (hb.mono A2.out.size)
    clear hb
    clear b0 b1 b2 b3 q0 q1 q2 q3 q4 q5 q6
    obtain ⟨KB, KR, _, _, _⟩ := HK.out _ A3.out
    obtain ⟨b0, b1, b2, b3⟩ := KB.all4
    obtain ⟨q0, q1, q2, q3, q4, q5, q6⟩ := KR.all7
    clear KB KR
    go_wp2_with fail
    refine (C4.out _).mono ?_
    rintro e w4 ⟨rfl, e2⟩
    have A4 : Hid (Below W0.heap.size W0 w4) := by rw [e2]; exact A3.out
    clear e2
    clear b0 b1 b2 b3 q0 q1 q2 q3 q4 q5 q6
    obtain ⟨KB, KR, _, _, _⟩ := HK.out _ A4.out
    obtain ⟨b0, b1, b2, b3⟩ := KB.all4
    obtain ⟨q0, q1, q2, q3, q4, q5, q6⟩ := KR.all7
    clear KB KR
    go_wp2_with fail
    exact HE.out _ (HK.out _ A4.out).2.2.1
  have C4 : Hid (∀ X, Calls Try.prog 20 #[.int .i64 r.waking, .int .i64 0, .int .i64 1099511627776] X fun e w' => e = .returned (.bool true) ∧ w' = X) := fun X => in_isN (by rw [numB_in, hc4]) X
  cases hc5 : numB r.opn
  case false =>
    have C5 : Hid (∀ X, Calls Try.prog 20 #[.int .i64 r.opn, .int .i64 0, .int .i64 1099511627776] X fun e w' => e = .returned (.bool false) ∧ w' = X) := fun X => in_isN (by rw [numB_in, hc5]) X
    have HE : Hid (∀ w', Below w.heap.size w w' → P (.returned (.int .i64 2)) w') := HN.out (by rw [EI.out, hc5]; simp)
    clear HN HI HY EI
    go_enter Try.func28, Try.ntmps28
    go_upto_region 1 with fail
    rw [← hW0]
    clear hW0
    obtain ⟨KB, KR, _, _, _⟩ := HK.out _ A0.out
    obtain ⟨b0, b1, b2, b3⟩ := KB.all4
    obtain ⟨q0, q1, q2, q3, q4, q5, q6⟩ := KR.all7
    clear KB KR
    go_wp2_with fail
    refine (C1.out _).mono ?_
    rintro e w1 ⟨rfl, e2⟩
    have A1 : Hid (Below W0.heap.size W0 w1) := by rw [e2]; exact A0.out
    clear e2
    clear b0 b1 b2 b3 q0 q1 q2 q3 q4 q5 q6
    obtain ⟨KB, KR, _, _, _⟩ := HK.out _ A1.out
    obtain ⟨b0, b1, b2, b3⟩ := KB.all4
    obtain ⟨q0, q1, q2, q3, q4, q5, q6⟩ := KR.all7
    clear KB KR
    go_wp2_with fail
    refine (C2.out _ _ (HK.out _ A1.out).2.2.2.1).mono ?_
    rintro e w2 ⟨rfl, hb⟩
    have A2 : Hid (Below W0.heap.size W0 w2) := A1.out.trans (hb.mono A1.out.size)
    clear hb
    clear b0 b1 b2 b3 q0 q1 q2 q3 q4 q5 q6
    obtain ⟨KB, KR, _, _, _⟩ := HK.out _ A2.out
    obtain ⟨b0, b1, b2, b3⟩ := KB.all4
    obtain ⟨q0, q1, q2, q3, q4, q5, q6⟩ := KR.all7
    clear KB KR
    go_wp2_with fail
    refine (C3.out _ _ (HK.out _ A2.out).2.2.2.2).mono ?_
    rintro e w3 ⟨rfl, hb⟩
    have A3 : Hid (Below W0.heap.size W0 w3) := A2.out.trans (hb.mono A2.out.size)
    clear hb
    clear b0 b1 b2 b3 q0 q1 q2 q3 q4 q5 q6
    obtain ⟨KB, KR, _, _, _⟩ := HK.out _ A3.out
    obtain ⟨b0, b1, b2, b3⟩ := KB.all4
    obtain ⟨q0, q1, q2, q3, q4, q5, q6⟩ := KR.all7
    clear KB KR
    go_wp2_with fail
    refine (C4.out _).mono ?_
    rintro e w4 ⟨rfl, e2⟩
    have A4 : Hid (Below W0.heap.size W0 w4) := by rw [e2]; exact A3.out
    clear e2
    clear b0 b1 b2 b3 q0 q1 q2 q3 q4 q5 q6
    obtain ⟨KB, KR, _, _, _⟩ := HK.out _ A4.out
    obtain ⟨b0, b1, b2, b3⟩ := KB.all4
    obtain ⟨q0, q1, q2, q3, q4, q5, q6⟩ := KR.all7
    clear KB KR
    go_wp2_with fail
    refine (C5.out _).mono ?_
    rintro e w5 ⟨rfl, e2⟩
    have A5 : Hid (Below W0.heap.size W0 w5) := by rw [e2]; exact A4.out
    clear e2
    clear b0 b1 b2 b3 q0 q1 q2 q3 q4 q5 q6
    obtain ⟨KB, KR, _, _, _⟩ := HK.out _ A5.out
    obtain ⟨b0, b1, b2, b3⟩ := KB.all4
    obtain ⟨q0, q1, q2, q3, q4, q5, q6⟩ := KR.all7
    clear KB KR
    go_wp2_with fail
    exact HE.out _ (HK.out _ A5.out).2.2.1
  have C5 : Hid (∀ X, Calls Try.prog 20 #[.int .i64 r.opn, .int .i64 0, .int .i64 1099511627776] X fun e w' => e = .returned (.bool true) ∧ w' = X) := fun X => in_isN (by rw [numB_in, hc5]) X
  have HIN : Hid (inR b.workers r = true) := by show _ = _; rw [EI.out, hc2, hc3, hc4, hc5]; rfl
  by_cases h4 : r.epoch = b.epoch
  case neg =>
    have HE : Hid (∀ w', Below w.heap.size w w' → P (.returned (.int .i64 11)) w') := HI.out HIN.out (fun h => h4 h.1)
    clear HN HI HY EI
    go_enter Try.func28, Try.ntmps28
    go_upto_region 1 with fail
    rw [← hW0]
    clear hW0
    obtain ⟨KB, KR, _, _, _⟩ := HK.out _ A0.out
    obtain ⟨b0, b1, b2, b3⟩ := KB.all4
    obtain ⟨q0, q1, q2, q3, q4, q5, q6⟩ := KR.all7
    clear KB KR
    go_wp2_with fail
    refine (C1.out _).mono ?_
    rintro e w1 ⟨rfl, e2⟩
    have A1 : Hid (Below W0.heap.size W0 w1) := by rw [e2]; exact A0.out
    clear e2
    clear b0 b1 b2 b3 q0 q1 q2 q3 q4 q5 q6
    obtain ⟨KB, KR, _, _, _⟩ := HK.out _ A1.out
    obtain ⟨b0, b1, b2, b3⟩ := KB.all4
    obtain ⟨q0, q1, q2, q3, q4, q5, q6⟩ := KR.all7
    clear KB KR
    go_wp2_with fail
    refine (C2.out _ _ (HK.out _ A1.out).2.2.2.1).mono ?_
    rintro e w2 ⟨rfl, hb⟩
    have A2 : Hid (Below W0.heap.size W0 w2) := A1.out.trans (hb.mono A1.out.size)
    clear hb
    clear b0 b1 b2 b3 q0 q1 q2 q3 q4 q5 q6
    obtain ⟨KB, KR, _, _, _⟩ := HK.out _ A2.out
    obtain ⟨b0, b1, b2, b3⟩ := KB.all4
    obtain ⟨q0, q1, q2, q3, q4, q5, q6⟩ := KR.all7
    clear KB KR
    go_wp2_with fail
    refine (C3.out _ _ (HK.out _ A2.out).2.2.2.2).mono ?_
    rintro e w3 ⟨rfl, hb⟩
    have A3 : Hid (Below W0.heap.size W0 w3) := A2.out.trans (hb.mono A2.out.size)
    clear hb
    clear b0 b1 b2 b3 q0 q1 q2 q3 q4 q5 q6
    obtain ⟨KB, KR, _, _, _⟩ := HK.out _ A3.out
    obtain ⟨b0, b1, b2, b3⟩ := KB.all4
    obtain ⟨q0, q1, q2, q3, q4, q5, q6⟩ := KR.all7
    clear KB KR
    go_wp2_with fail
    refine (C4.out _).mono ?_
    rintro e w4 ⟨rfl, e2⟩
    have A4 : Hid (Below W0.heap.size W0 w4) := by rw [e2]; exact A3.out
    clear e2
    clear b0 b1 b2 b3 q0 q1 q2 q3 q4 q5 q6
    obtain ⟨KB, KR, _, _, _⟩ := HK.out _ A4.out
    obtain ⟨b0, b1, b2, b3⟩ := KB.all4
    obtain ⟨q0, q1, q2, q3, q4, q5, q6⟩ := KR.all7
    clear KB KR
    go_wp2_with fail
    refine (C5.out _).mono ?_
    rintro e w5 ⟨rfl, e2⟩
    have A5 : Hid (Below W0.heap.size W0 w5) := by rw [e2]; exact A4.out
    clear e2
    clear b0 b1 b2 b3 q0 q1 q2 q3 q4 q5 q6
    obtain ⟨KB, KR, _, _, _⟩ := HK.out _ A5.out
    obtain ⟨b0, b1, b2, b3⟩ := KB.all4
    obtain ⟨q0, q1, q2, q3, q4, q5, q6⟩ := KR.all7
    clear KB KR
    go_wp2_with fail
    exact HE.out _ (HK.out _ A5.out).2.2.1
  have H4 : Hid (r.epoch = b.epoch) := h4
  have t4 : (r.epoch != b.epoch) = false := by simp [h4]
  clear h4
  by_cases h5 : r.step = b.step
  case neg =>
    have HE : Hid (∀ w', Below w.heap.size w w' → P (.returned (.int .i64 11)) w') := HI.out HIN.out (fun h => h5 h.2)
    clear HN HI HY EI
    go_enter Try.func28, Try.ntmps28
    go_upto_region 1 with fail
    rw [← hW0]
    clear hW0
    obtain ⟨KB, KR, _, _, _⟩ := HK.out _ A0.out
    obtain ⟨b0, b1, b2, b3⟩ := KB.all4
    obtain ⟨q0, q1, q2, q3, q4, q5, q6⟩ := KR.all7
    clear KB KR
    go_wp2_with fail
    refine (C1.out _).mono ?_
    rintro e w1 ⟨rfl, e2⟩
    have A1 : Hid (Below W0.heap.size W0 w1) := by rw [e2]; exact A0.out
    clear e2
    clear b0 b1 b2 b3 q0 q1 q2 q3 q4 q5 q6
    obtain ⟨KB, KR, _, _, _⟩ := HK.out _ A1.out
    obtain ⟨b0, b1, b2, b3⟩ := KB.all4
    obtain ⟨q0, q1, q2, q3, q4, q5, q6⟩ := KR.all7
    clear KB KR
    go_wp2_with fail
    refine (C2.out _ _ (HK.out _ A1.out).2.2.2.1).mono ?_
    rintro e w2 ⟨rfl, hb⟩
    have A2 : Hid (Below W0.heap.size W0 w2) := A1.out.trans (hb.mono A1.out.size)
    clear hb
    clear b0 b1 b2 b3 q0 q1 q2 q3 q4 q5 q6
    obtain ⟨KB, KR, _, _, _⟩ := HK.out _ A2.out
    obtain ⟨b0, b1, b2, b3⟩ := KB.all4
    obtain ⟨q0, q1, q2, q3, q4, q5, q6⟩ := KR.all7
    clear KB KR
    go_wp2_with fail
    refine (C3.out _ _ (HK.out _ A2.out).2.2.2.2).mono ?_
    rintro e w3 ⟨rfl, hb⟩
    have A3 : Hid (Below W0.heap.size W0 w3) := A2.out.trans (hb.mono A2.out.size)
    clear hb
    clear b0 b1 b2 b3 q0 q1 q2 q3 q4 q5 q6
    obtain ⟨KB, KR, _, _, _⟩ := HK.out _ A3.out
    obtain ⟨b0, b1, b2, b3⟩ := KB.all4
    obtain ⟨q0, q1, q2, q3, q4, q5, q6⟩ := KR.all7
    clear KB KR
    go_wp2_with fail
    refine (C4.out _).mono ?_
    rintro e w4 ⟨rfl, e2⟩
    have A4 : Hid (Below W0.heap.size W0 w4) := by rw [e2]; exact A3.out
    clear e2
    clear b0 b1 b2 b3 q0 q1 q2 q3 q4 q5 q6
    obtain ⟨KB, KR, _, _, _⟩ := HK.out _ A4.out
    obtain ⟨b0, b1, b2, b3⟩ := KB.all4
    obtain ⟨q0, q1, q2, q3, q4, q5, q6⟩ := KR.all7
    clear KB KR
    go_wp2_with fail
    refine (C5.out _).mono ?_
    rintro e w5 ⟨rfl, e2⟩
    have A5 : Hid (Below W0.heap.size W0 w5) := by rw [e2]; exact A4.out
    clear e2
    clear b0 b1 b2 b3 q0 q1 q2 q3 q4 q5 q6
    obtain ⟨KB, KR, _, _, _⟩ := HK.out _ A5.out
    obtain ⟨b0, b1, b2, b3⟩ := KB.all4
    obtain ⟨q0, q1, q2, q3, q4, q5, q6⟩ := KR.all7
    clear KB KR
    go_wp2_with fail
    exact HE.out _ (HK.out _ A5.out).2.2.1
  have H5 : Hid (r.step = b.step) := h5
  have t5 : (r.step != b.step) = false := by simp [h5]
  clear h5
  have HE : Hid (∀ w', Below w.heap.size w w' → P (.returned (.int .i64 0)) w') := HY.out HIN.out ⟨H4.out, H5.out⟩
  clear HN HI HY EI
  go_enter Try.func28, Try.ntmps28
  go_upto_region 1 with fail
  rw [← hW0]
  clear hW0
  obtain ⟨KB, KR, _, _, _⟩ := HK.out _ A0.out
  obtain ⟨b0, b1, b2, b3⟩ := KB.all4
  obtain ⟨q0, q1, q2, q3, q4, q5, q6⟩ := KR.all7
  clear KB KR
  go_wp2_with fail
  refine (C1.out _).mono ?_
  rintro e w1 ⟨rfl, e2⟩
  have A1 : Hid (Below W0.heap.size W0 w1) := by rw [e2]; exact A0.out
  clear e2
  clear b0 b1 b2 b3 q0 q1 q2 q3 q4 q5 q6
  obtain ⟨KB, KR, _, _, _⟩ := HK.out _ A1.out
  obtain ⟨b0, b1, b2, b3⟩ := KB.all4
  obtain ⟨q0, q1, q2, q3, q4, q5, q6⟩ := KR.all7
  clear KB KR
  go_wp2_with fail
  refine (C2.out _ _ (HK.out _ A1.out).2.2.2.1).mono ?_
  rintro e w2 ⟨rfl, hb⟩
  have A2 : Hid (Below W0.heap.size W0 w2) := A1.out.trans (hb.mono A1.out.size)
  clear hb
  clear b0 b1 b2 b3 q0 q1 q2 q3 q4 q5 q6
  obtain ⟨KB, KR, _, _, _⟩ := HK.out _ A2.out
  obtain ⟨b0, b1, b2, b3⟩ := KB.all4
  obtain ⟨q0, q1, q2, q3, q4, q5, q6⟩ := KR.all7
  clear KB KR
  go_wp2_with fail
  refine (C3.out _ _ (HK.out _ A2.out).2.2.2.2).mono ?_
  rintro e w3 ⟨rfl, hb⟩
  have A3 : Hid (Below W0.heap.size W0 w3) := A2.out.trans (hb.mono A2.out.size)
  clear hb
  clear b0 b1 b2 b3 q0 q1 q2 q3 q4 q5 q6
  obtain ⟨KB, KR, _, _, _⟩ := HK.out _ A3.out
  obtain ⟨b0, b1, b2, b3⟩ := KB.all4
  obtain ⟨q0, q1, q2, q3, q4, q5, q6⟩ := KR.all7
  clear KB KR
  go_wp2_with fail
  refine (C4.out _).mono ?_
  rintro e w4 ⟨rfl, e2⟩
  have A4 : Hid (Below W0.heap.size W0 w4) := by rw [e2]; exact A3.out
  clear e2
  clear b0 b1 b2 b3 q0 q1 q2 q3 q4 q5 q6
  obtain ⟨KB, KR, _, _, _⟩ := HK.out _ A4.out
  obtain ⟨b0, b1, b2, b3⟩ := KB.all4
  obtain ⟨q0, q1, q2, q3, q4, q5, q6⟩ := KR.all7
  clear KB KR
  go_wp2_with fail
  refine (C5.out _).mono ?_
  rintro e w5 ⟨rfl, e2⟩
  have A5 : Hid (Below W0.heap.size W0 w5) := by rw [e2]; exact A4.out
  clear e2
  clear b0 b1 b2 b3 q0 q1 q2 q3 q4 q5 q6
  obtain ⟨KB, KR, _, _, _⟩ := HK.out _ A5.out
  obtain ⟨b0, b1, b2, b3⟩ := KB.all4
  obtain ⟨q0, q1, q2, q3, q4, q5, q6⟩ := KR.all7
  clear KB KR
  go_wp2_with fail
  exact HE.out _ (HK.out _ A5.out).2.2.1
end Go.Proofs.Ytpikfiegmnmbmaa
