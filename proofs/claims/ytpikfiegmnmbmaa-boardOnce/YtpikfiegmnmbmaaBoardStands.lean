/-
  Contract of board.stands: which error tells that a report may not stand.
-/
import Derived.Test.YtpikfiegmnmbmaaBoardOpen
namespace Go.Proofs.Ytpikfiegmnmbmaa
set_option maxRecDepth 100000
open Go.ChangeShapes Go.WideShapes Go.ChangeAt Go.RowKit

theorem stE_no {b : BdL} {r : RpL} (h : inR b.workers r = false) : stE b r = 2 := by rw [stE, if_neg (by rw [h]; decide)]
theorem stE_epoch {b : BdL} {r : RpL} (h : inR b.workers r = true) (h2 : ¬ (r.epoch = b.epoch ∧ r.step = b.step)) : stE b r = 11 := by rw [stE, if_pos h, if_neg h2]
theorem stE_yes {b : BdL} {r : RpL} (h : inR b.workers r = true) (h2 : r.epoch = b.epoch ∧ r.step = b.step) : stE b r = 0 := by rw [stE, if_pos h, if_pos h2]
theorem stE_zero {b : BdL} {r : RpL} (h : stE b r = 0) : inR b.workers r = true ∧ r.epoch = b.epoch ∧ r.step = b.step := by
  unfold stE at h
  split at h
  · split at h
    · exact ⟨by assumption, by assumption⟩
    · cases h
  · cases h
theorem inR_false {W : Int} {r : RpL} (h : ¬ ((0 ≤ r.worker ∧ r.worker < W) ∧ ((r.sent.length : Int) = W ∧ r.sent.all numB = true) ∧ ((r.got.length : Int) = W ∧ r.got.all numB = true) ∧ numB r.waking = true ∧ numB r.opn = true)) : inR W r = false := by
  rw [← Bool.not_eq_true]
  intro g
  obtain ⟨h1, h2, h3, h4, h5⟩ := inR_iff.1 g
  obtain ⟨a1, a2⟩ := cntB_iff.1 h2
  obtain ⟨b1, b2⟩ := cntB_iff.1 h3
  exact h ⟨h1, ⟨a1, List.all_eq_true.2 a2⟩, ⟨b1, List.all_eq_true.2 b2⟩, h4, h5⟩
theorem inR_true {W : Int} {r : RpL} (h : (0 ≤ r.worker ∧ r.worker < W) ∧ ((r.sent.length : Int) = W ∧ r.sent.all numB = true) ∧ ((r.got.length : Int) = W ∧ r.got.all numB = true) ∧ numB r.waking = true ∧ numB r.opn = true) : inR W r = true := by
  obtain ⟨h1, ⟨a1, a2⟩, ⟨b1, b2⟩, h4, h5⟩ := h
  exact inR_iff.2 ⟨h1, cntB_iff.2 ⟨a1, List.all_eq_true.1 a2⟩, cntB_iff.2 ⟨b1, List.all_eq_true.1 b2⟩, h4, h5⟩
theorem BX.all7 {t : TypeId} {w : World} {q : Nat} {a b c d e f g : Value} (h : BX t w q #[a, b, c, d, e, f, g]) : w.cell? ⟨q, 0, none⟩ = some a ∧ w.cell? ⟨q, 1, none⟩ = some b ∧ w.cell? ⟨q, 2, none⟩ = some c ∧ w.cell? ⟨q, 3, none⟩ = some d ∧ w.cell? ⟨q, 4, none⟩ = some e ∧ w.cell? ⟨q, 5, none⟩ = some f ∧ w.cell? ⟨q, 6, none⟩ = some g := ⟨h.cell 0, h.cell 1, h.cell 2, h.cell 3, h.cell 4, h.cell 5, h.cell 6⟩
theorem containsOutN_is {l : List Int} {t : Bool} (ht : (!l.all numB) = t) (v : Value) (w : World) (h : InR w v l) :
    Calls Try.prog 33 #[v, .func (.func 19) #[] #[]] w fun e w' => e = .returned (.bool t) ∧ Below w.heap.size w w' := by
  have := containsOutN_any v l w h
  rwa [ht] at this
/-- A number is answered, nothing that was there is changed. -/
def NoP (w : World) (n : Int) (e : Ending) (w' : World) : Prop := e = .returned (.int .i64 n) ∧ Below w.heap.size w w'

set_option maxHeartbeats 8000000 in
set_option maxRecDepth 100000 in
theorem stands_any (b : BdL) (r : RpL) (ra : Option Addr) (n rc : Nat) (vs vg : Value) (w : World) (hs : InR w vs r.sent) (hg : InR w vg r.got) :
    Calls Try.prog 24 #[.agg #[.int .i64 b.workers, .int .i64 b.epoch, .int .i64 b.step, .slice ra n rc], .agg #[.int .i64 r.worker, .int .i64 r.epoch, .int .i64 r.step, vs, vg, .int .i64 r.waking, .int .i64 r.opn]] w (NoP w (stE b r)) := by
  have HS : Hid (InR w vs r.sent) := hs
  have HG : Hid (InR w vg r.got) := hg
  obtain ⟨sa, sc, rfl, hsc, hsm, _, _⟩ := hs
  obtain ⟨ga, gc, rfl, hgc, hgm, _, _⟩ := hg
  unfold maxLen at hsm hgm
  obtain ⟨W0, hW0⟩ : ∃ W0, W0 = (w.alloc (.cells #[.int .i64 b.workers, .int .i64 b.epoch, .int .i64 b.step, .slice ra n rc] 24)).alloc (.cells #[.int .i64 r.worker, .int .i64 r.epoch, .int .i64 r.step, .slice sa r.sent.length sc, .slice ga r.got.length gc, .int .i64 r.waking, .int .i64 r.opn] 32) := ⟨_, rfl⟩
  obtain ⟨Q0, M0, B0, s1, s2⟩ := boxes2 w #[.int .i64 b.workers, .int .i64 b.epoch, .int .i64 b.step, .slice ra n rc] #[.int .i64 r.worker, .int .i64 r.epoch, .int .i64 r.step, .slice sa r.sent.length sc, .slice ga r.got.length gc, .int .i64 r.waking, .int .i64 r.opn] 24 32 W0 hW0
  have HK : Hid (∀ X, Below W0.heap.size W0 X → BX 24 X w.heap.size #[.int .i64 b.workers, .int .i64 b.epoch, .int .i64 b.step, .slice ra n rc] ∧ BX 32 X (w.heap.size + 1) #[.int .i64 r.worker, .int .i64 r.epoch, .int .i64 r.step, .slice sa r.sent.length sc, .slice ga r.got.length gc, .int .i64 r.waking, .int .i64 r.opn] ∧ Below w.heap.size w X ∧ InR X (.slice sa r.sent.length sc) r.sent ∧ InR X (.slice ga r.got.length gc) r.got) := fun X hX => by
    have hb := B0.trans (hX.mono (show w.heap.size ≤ W0.heap.size by omega))
    exact ⟨Q0.below hX (by omega), M0.below hX (by omega), hb, HS.out.below hb (Nat.le_refl _), HG.out.below hb (Nat.le_refl _)⟩
  have A0 : Hid (Below W0.heap.size W0 W0) := Below.refl _ _
  clear Q0 M0 B0 HS HG s1 s2
  have HN : Hid (¬ ((0 ≤ r.worker ∧ r.worker < b.workers) ∧ ((r.sent.length : Int) = b.workers ∧ r.sent.all numB = true) ∧ ((r.got.length : Int) = b.workers ∧ r.got.all numB = true) ∧ numB r.waking = true ∧ numB r.opn = true) → ∀ w', Below w.heap.size w w' → NoP w (stE b r) (.returned (.int .i64 2)) w') := fun h w' hb => ⟨by rw [stE_no (inR_false h)], hb⟩
  have HI : Hid (((0 ≤ r.worker ∧ r.worker < b.workers) ∧ ((r.sent.length : Int) = b.workers ∧ r.sent.all numB = true) ∧ ((r.got.length : Int) = b.workers ∧ r.got.all numB = true) ∧ numB r.waking = true ∧ numB r.opn = true) → ¬ (r.epoch = b.epoch ∧ r.step = b.step) → ∀ w', Below w.heap.size w w' → NoP w (stE b r) (.returned (.int .i64 11)) w') := fun h h2 w' hb => ⟨by rw [stE_epoch (inR_true h) h2], hb⟩
  have HY : Hid (((0 ≤ r.worker ∧ r.worker < b.workers) ∧ ((r.sent.length : Int) = b.workers ∧ r.sent.all numB = true) ∧ ((r.got.length : Int) = b.workers ∧ r.got.all numB = true) ∧ numB r.waking = true ∧ numB r.opn = true) → (r.epoch = b.epoch ∧ r.step = b.step) → ∀ w', Below w.heap.size w w' → NoP w (stE b r) (.returned (.int .i64 0)) w') := fun h h2 w' hb => ⟨by rw [stE_yes (inR_true h) h2], hb⟩
  generalize NoP w (stE b r) = P at *
  by_cases h0 : r.worker < 0
  · have _u := h0
    have HE : Hid (∀ w', Below w.heap.size w w' → P (.returned (.int .i64 2)) w') := HN.out (fun h => by omega)
    clear HN HI HY
    go_enter Try.func24, Try.ntmps24
    go_upto_region 1 with fail
    rw [← hW0]
    clear hW0
    obtain ⟨KB, KR, _, _, _⟩ := HK.out _ A0.out
    obtain ⟨b0, b1, b2, b3⟩ := KB.all4
    obtain ⟨q0, q1, q2, q3, q4, q5, q6⟩ := KR.all7
    clear KB KR
    go_wp2_with fail
    exact HE.out _ (HK.out _ A0.out).2.2.1
  by_cases h1 : b.workers ≤ r.worker
  · have _u := h1
    have HE : Hid (∀ w', Below w.heap.size w w' → P (.returned (.int .i64 2)) w') := HN.out (fun h => by omega)
    clear HN HI HY
    go_enter Try.func24, Try.ntmps24
    go_upto_region 1 with fail
    rw [← hW0]
    clear hW0
    obtain ⟨KB, KR, _, _, _⟩ := HK.out _ A0.out
    obtain ⟨b0, b1, b2, b3⟩ := KB.all4
    obtain ⟨q0, q1, q2, q3, q4, q5, q6⟩ := KR.all7
    clear KB KR
    go_wp2_with fail
    exact HE.out _ (HK.out _ A0.out).2.2.1
  by_cases h2 : (r.sent.length : Int) = b.workers
  case neg =>
    have HE : Hid (∀ w', Below w.heap.size w w' → P (.returned (.int .i64 2)) w') := HN.out (fun h => h2 h.2.1.1)
    clear HN HI HY
    go_enter Try.func24, Try.ntmps24
    go_upto_region 1 with fail
    rw [← hW0]
    clear hW0
    obtain ⟨KB, KR, _, _, _⟩ := HK.out _ A0.out
    obtain ⟨b0, b1, b2, b3⟩ := KB.all4
    obtain ⟨q0, q1, q2, q3, q4, q5, q6⟩ := KR.all7
    clear KB KR
    go_wp2_with fail
    exact HE.out _ (HK.out _ A0.out).2.2.1
  by_cases h3 : (r.got.length : Int) = b.workers
  case neg =>
    have HE : Hid (∀ w', Below w.heap.size w w' → P (.returned (.int .i64 2)) w') := HN.out (fun h => h3 h.2.2.1.1)
    clear HN HI HY
    go_enter Try.func24, Try.ntmps24
    go_upto_region 1 with fail
    rw [← hW0]
    clear hW0
    obtain ⟨KB, KR, _, _, _⟩ := HK.out _ A0.out
    obtain ⟨b0, b1, b2, b3⟩ := KB.all4
    obtain ⟨q0, q1, q2, q3, q4, q5, q6⟩ := KR.all7
    clear KB KR
    go_wp2_with fail
    exact HE.out _ (HK.out _ A0.out).2.2.1
  cases hc1 : r.sent.all numB
  case false =>
    have C1 : Hid (∀ X v, InR X v r.sent → Calls Try.prog 33 #[v, .func (.func 19) #[] #[]] X fun e w' => e = .returned (.bool true) ∧ Below X.heap.size X w') := fun X v h => containsOutN_is (by rw [hc1]; rfl) v X h
    have HE : Hid (∀ w', Below w.heap.size w w' → P (.returned (.int .i64 2)) w') := HN.out (fun h => by have := h.2.1.2; rw [hc1] at this; cases this)
    clear HN HI HY
    go_enter Try.func24, Try.ntmps24
    go_upto_region 1 with fail
    rw [← hW0]
    clear hW0
    obtain ⟨KB, KR, _, _, _⟩ := HK.out _ A0.out
    obtain ⟨b0, b1, b2, b3⟩ := KB.all4
    obtain ⟨q0, q1, q2, q3, q4, q5, q6⟩ := KR.all7
    clear KB KR
    go_wp2_with fail
    refine (C1.out _ _ (HK.out _ A0.out).2.2.2.1).mono ?_
    rintro e w1 ⟨rfl, hb⟩
    have A1 : Hid (Below W0.heap.size W0 w1) := A0.out.trans (hb.mono A0.out.size)
    clear hb
    clear b0 b1 b2 b3 q0 q1 q2 q3 q4 q5 q6
    obtain ⟨KB, KR, _, _, _⟩ := HK.out _ A1.out
    obtain ⟨b0, b1, b2, b3⟩ := KB.all4
    obtain ⟨q0, q1, q2, q3, q4, q5, q6⟩ := KR.all7
    clear KB KR
    go_wp2_with fail
    exact HE.out _ (HK.out _ A1.out).2.2.1
  have C1 : Hid (∀ X v, InR X v r.sent → Calls Try.prog 33 #[v, .func (.func 19) #[] #[]] X fun e w' => e = .returned (.bool false) ∧ Below X.heap.size X w') := fun X v h => containsOutN_is (by rw [hc1]; rfl) v X h
  cases hc2 : r.got.all numB
  case false =>
    have C2 : Hid (∀ X v, InR X v r.got → Calls Try.prog 33 #[v, .func (.func 19) #[] #[]] X fun e w' => e = .returned (.bool true) ∧ Below X.heap.size X w') := fun X v h => containsOutN_is (by rw [hc2]; rfl) v X h
    have HE : Hid (∀ w', Below w.heap.size w w' → P (.returned (.int .i64 2)) w') := HN.out (fun h => by have := h.2.2.1.2; rw [hc2] at this; cases this)
    clear HN HI HY
    go_enter Try.func24, Try.ntmps24
    go_upto_region 1 with fail
    rw [← hW0]
    clear hW0
    obtain ⟨KB, KR, _, _, _⟩ := HK.out _ A0.out
    obtain ⟨b0, b1, b2, b3⟩ := KB.all4
    obtain ⟨q0, q1, q2, q3, q4, q5, q6⟩ := KR.all7
    clear KB KR
    go_wp2_with fail
    refine (C1.out _ _ (HK.out _ A0.out).2.2.2.1).mono ?_
    rintro e w1 ⟨rfl, hb⟩
    have A1 : Hid (Below W0.heap.size W0 w1) := A0.out.trans (hb.mono A0.out.size)
    clear hb
    clear b0 b1 b2 b3 q0 q1 q2 q3 q4 q5 q6
    obtain ⟨KB, KR, _, _, _⟩ := HK.out _ A1.out
    obtain ⟨b0, b1, b2, b3⟩ := KB.all4
    obtain ⟨q0, q1, q2, q3, q4, q5, q6⟩ := KR.all7
    clear KB KR
    go_wp2_with fail
    refine (C2.out _ _ (HK.out _ A1.out).2.2.2.2).mono ?_
    rintro e w2 ⟨rfl, hb⟩
    have A2 : Hid (Below W0.heap.size W0 w2) := A1.out.trans (hb.mono A1.out.size)
    clear hb
    clear b0 b1 b2 b3 q0 q1 q2 q3 q4 q5 q6
    obtain ⟨KB, KR, _, _, _⟩ := HK.out _ A2.out
    obtain ⟨b0, b1, b2, b3⟩ := KB.all4
    obtain ⟨q0, q1, q2, q3, q4, q5, q6⟩ := KR.all7
    clear KB KR
    go_wp2_with fail
    exact HE.out _ (HK.out _ A2.out).2.2.1
  have C2 : Hid (∀ X v, InR X v r.got → Calls Try.prog 33 #[v, .func (.func 19) #[] #[]] X fun e w' => e = .returned (.bool false) ∧ Below X.heap.size X w') := fun X v h => containsOutN_is (by rw [hc2]; rfl) v X h
  cases hc3 : numB r.waking
  case false =>
    have C3 : Hid (∀ X, Calls Try.prog 19 #[.int .i64 r.waking] X fun e w' => e = .returned (.bool true) ∧ w' = X) := fun X => outside_is (by rw [hc3]; rfl) X
    have HE : Hid (∀ w', Below w.heap.size w w' → P (.returned (.int .i64 2)) w') := HN.out (fun h => by have := h.2.2.2.1; rw [hc3] at this; cases this)
    clear HN HI HY
    go_enter Try.func24, Try.ntmps24
    go_upto_region 1 with fail
    rw [← hW0]
    clear hW0
    obtain ⟨KB, KR, _, _, _⟩ := HK.out _ A0.out
    obtain ⟨b0, b1, b2, b3⟩ := KB.all4
    obtain ⟨q0, q1, q2, q3, q4, q5, q6⟩ := KR.all7
    clear KB KR
    go_wp2_with fail
    refine (C1.out _ _ (HK.out _ A0.out).2.2.2.1).mono ?_
    rintro e w1 ⟨rfl, hb⟩
    have A1 : Hid (Below W0.heap.size W0 w1) := A0.out.trans (hb.mono A0.out.size)
    clear hb
    clear b0 b1 b2 b3 q0 q1 q2 q3 q4 q5 q6
    obtain ⟨KB, KR, _, _, _⟩ := HK.out _ A1.out
    obtain ⟨b0, b1, b2, b3⟩ := KB.all4
    obtain ⟨q0, q1, q2, q3, q4, q5, q6⟩ := KR.all7
    clear KB KR
    go_wp2_with fail
    refine (C2.out _ _ (HK.out _ A1.out).2.2.2.2).mono ?_
    rintro e w2 ⟨rfl, hb⟩
    have A2 : Hid (Below W0.heap.size W0 w2) := A1.out.trans (hb.mono A1.out.size)
    clear hb
    clear b0 b1 b2 b3 q0 q1 q2 q3 q4 q5 q6
    obtain ⟨KB, KR, _, _, _⟩ := HK.out _ A2.out
    obtain ⟨b0, b1, b2, b3⟩ := KB.all4
    obtain ⟨q0, q1, q2, q3, q4, q5, q6⟩ := KR.all7
    clear KB KR
    go_wp2_with fail
    refine (C3.out _).mono ?_
    rintro e w3 ⟨rfl, e2⟩
    have A3 : Hid (Below W0.heap.size W0 w3) := by rw [e2]; exact A2.out
    clear e2
    clear b0 b1 b2 b3 q0 q1 q2 q3 q4 q5 q6
    obtain ⟨KB, KR, _, _, _⟩ := HK.out _ A3.out
    obtain ⟨b0, b1, b2, b3⟩ := KB.all4
    obtain ⟨q0, q1, q2, q3, q4, q5, q6⟩ := KR.all7
    clear KB KR
    go_wp2_with fail
    exact HE.out _ (HK.out _ A3.out).2.2.1
  have C3 : Hid (∀ X, Calls Try.prog 19 #[.int .i64 r.waking] X fun e w' => e = .returned (.bool false) ∧ w' = X) := fun X => outside_is (by rw [hc3]; rfl) X
  cases hc4 : numB r.opn
  case false =>
    have C4 : Hid (∀ X, Calls Try.prog 19 #[.int .i64 r.opn] X fun e w' => e = .returned (.bool true) ∧ w' = X) := fun X => outside_is (by rw [hc4]; rfl) X
    have HE : Hid (∀ w', Below w.heap.size w w' → P (.returned (.int .i64 2)) w') := HN.out (fun h => by have := h.2.2.2.2; rw [hc4] at this; cases this)
    clear HN HI HY
    go_enter Try.func24, Try.ntmps24
    go_upto_region 1 with fail
    rw [← hW0]
    clear hW0
    obtain ⟨KB, KR, _, _, _⟩ := HK.out _ A0.out
    obtain ⟨b0, b1, b2, b3⟩ := KB.all4
    obtain ⟨q0, q1, q2, q3, q4, q5, q6⟩ := KR.all7
    clear KB KR
    go_wp2_with fail
    refine (C1.out _ _ (HK.out _ A0.out).2.2.2.1).mono ?_
    rintro e w1 ⟨rfl, hb⟩
    have A1 : Hid (Below W0.heap.size W0 w1) := A0.out.trans (hb.mono A0.out.size)
    clear hb
    clear b0 b1 b2 b3 q0 q1 q2 q3 q4 q5 q6
    obtain ⟨KB, KR, _, _, _⟩ := HK.out _ A1.out
    obtain ⟨b0, b1, b2, b3⟩ := KB.all4
    obtain ⟨q0, q1, q2, q3, q4, q5, q6⟩ := KR.all7
    clear KB KR
    go_wp2_with fail
    refine (C2.out _ _ (HK.out _ A1.out).2.2.2.2).mono ?_
    rintro e w2 ⟨rfl, hb⟩
    have A2 : Hid (Below W0.heap.size W0 w2) := A1.out.trans (hb.mono A1.out.size)
    clear hb
    clear b0 b1 b2 b3 q0 q1 q2 q3 q4 q5 q6
    obtain ⟨KB, KR, _, _, _⟩ := HK.out _ A2.out
    obtain ⟨b0, b1, b2, b3⟩ := KB.all4
    obtain ⟨q0, q1, q2, q3, q4, q5, q6⟩ := KR.all7
    clear KB KR
    go_wp2_with fail
    refine (C3.out _).mono ?_
    rintro e w3 ⟨rfl, e2⟩
    have A3 : Hid (Below W0.heap.size W0 w3) := by rw [e2]; exact A2.out
    clear e2
    clear b0 b1 b2 b3 q0 q1 q2 q3 q4 q5 q6
    obtain ⟨KB, KR, _, _, _⟩ := HK.out _ A3.out
    obtain ⟨b0, b1, b2, b3⟩ := KB.all4
    obtain ⟨q0, q1, q2, q3, q4, q5, q6⟩ := KR.all7
    clear KB KR
    go_wp2_with fail
    refine (C4.out _).mono ?_
    rintro e w4 ⟨rfl, e2⟩
    have A4 : Hid (Below W0.heap.size W0 w4) := by rw [e2]; exact A3.out
    clear e2
    clear b0 b1 b2 b3 q0 q1 q2 q3 q4 q5 q6
    obtain ⟨KB, KR, _, _, _⟩ := HK.out _ A4.out
    obtain ⟨b0, b1, b2, b3⟩ := KB.all4
    obtain ⟨q0, q1, q2, q3, q4, q5, q6⟩ := KR.all7
    clear KB KR
    go_wp2_with fail
    exact HE.out _ (HK.out _ A4.out).2.2.1
  have C4 : Hid (∀ X, Calls Try.prog 19 #[.int .i64 r.opn] X fun e w' => e = .returned (.bool false) ∧ w' = X) := fun X => outside_is (by rw [hc4]; rfl) X
  have HIN : Hid ((0 ≤ r.worker ∧ r.worker < b.workers) ∧ ((r.sent.length : Int) = b.workers ∧ r.sent.all numB = true) ∧ ((r.got.length : Int) = b.workers ∧ r.got.all numB = true) ∧ numB r.waking = true ∧ numB r.opn = true) := ⟨⟨by omega, by omega⟩, ⟨h2, hc1⟩, ⟨h3, hc2⟩, hc3, hc4⟩
  by_cases h4 : r.epoch = b.epoch
  case neg =>
    have HE : Hid (∀ w', Below w.heap.size w w' → P (.returned (.int .i64 11)) w') := HI.out HIN.out (fun h => h4 h.1)
    clear HN HI HY
    go_enter Try.func24, Try.ntmps24
    go_upto_region 1 with fail
    rw [← hW0]
    clear hW0
    obtain ⟨KB, KR, _, _, _⟩ := HK.out _ A0.out
    obtain ⟨b0, b1, b2, b3⟩ := KB.all4
    obtain ⟨q0, q1, q2, q3, q4, q5, q6⟩ := KR.all7
    clear KB KR
    go_wp2_with fail
    refine (C1.out _ _ (HK.out _ A0.out).2.2.2.1).mono ?_
    rintro e w1 ⟨rfl, hb⟩
    have A1 : Hid (Below W0.heap.size W0 w1) := A0.out.trans (hb.mono A0.out.size)
    clear hb
    clear b0 b1 b2 b3 q0 q1 q2 q3 q4 q5 q6
    obtain ⟨KB, KR, _, _, _⟩ := HK.out _ A1.out
    obtain ⟨b0, b1, b2, b3⟩ := KB.all4
    obtain ⟨q0, q1, q2, q3, q4, q5, q6⟩ := KR.all7
    clear KB KR
    go_wp2_with fail
    refine (C2.out _ _ (HK.out _ A1.out).2.2.2.2).mono ?_
    rintro e w2 ⟨rfl, hb⟩
    have A2 : Hid (Below W0.heap.size W0 w2) := A1.out.trans (hb.mono A1.out.size)
    clear hb
    clear b0 b1 b2 b3 q0 q1 q2 q3 q4 q5 q6
    obtain ⟨KB, KR, _, _, _⟩ := HK.out _ A2.out
    obtain ⟨b0, b1, b2, b3⟩ := KB.all4
    obtain ⟨q0, q1, q2, q3, q4, q5, q6⟩ := KR.all7
    clear KB KR
    go_wp2_with fail
    refine (C3.out _).mono ?_
    rintro e w3 ⟨rfl, e2⟩
    have A3 : Hid (Below W0.heap.size W0 w3) := by rw [e2]; exact A2.out
    clear e2
    clear b0 b1 b2 b3 q0 q1 q2 q3 q4 q5 q6
    obtain ⟨KB, KR, _, _, _⟩ := HK.out _ A3.out
    obtain ⟨b0, b1, b2, b3⟩ := KB.all4
    obtain ⟨q0, q1, q2, q3, q4, q5, q6⟩ := KR.all7
    clear KB KR
    go_wp2_with fail
    refine (C4.out _).mono ?_
    rintro e w4 ⟨rfl, e2⟩
    have A4 : Hid (Below W0.heap.size W0 w4) := by rw [e2]; exact A3.out
    clear e2
    clear b0 b1 b2 b3 q0 q1 q2 q3 q4 q5 q6
    obtain ⟨KB, KR, _, _, _⟩ := HK.out _ A4.out
    obtain ⟨b0, b1, b2, b3⟩ := KB.all4
    obtain ⟨q0, q1, q2, q3, q4, q5, q6⟩ := KR.all7
    clear KB KR
    go_wp2_with fail
    exact HE.out _ (HK.out _ A4.out).2.2.1
  have H4 : Hid (r.epoch = b.epoch) := h4
  have t4 : (r.epoch != b.epoch) = false := by simp [h4]
  clear h4
  by_cases h5 : r.step = b.step
  case neg =>
    have HE : Hid (∀ w', Below w.heap.size w w' → P (.returned (.int .i64 11)) w') := HI.out HIN.out (fun h => h5 h.2)
    clear HN HI HY
    go_enter Try.func24, Try.ntmps24
    go_upto_region 1 with fail
    rw [← hW0]
    clear hW0
    obtain ⟨KB, KR, _, _, _⟩ := HK.out _ A0.out
    obtain ⟨b0, b1, b2, b3⟩ := KB.all4
    obtain ⟨q0, q1, q2, q3, q4, q5, q6⟩ := KR.all7
    clear KB KR
    go_wp2_with fail
    refine (C1.out _ _ (HK.out _ A0.out).2.2.2.1).mono ?_
    rintro e w1 ⟨rfl, hb⟩
    have A1 : Hid (Below W0.heap.size W0 w1) := A0.out.trans (hb.mono A0.out.size)
    clear hb
    clear b0 b1 b2 b3 q0 q1 q2 q3 q4 q5 q6
    obtain ⟨KB, KR, _, _, _⟩ := HK.out _ A1.out
    obtain ⟨b0, b1, b2, b3⟩ := KB.all4
    obtain ⟨q0, q1, q2, q3, q4, q5, q6⟩ := KR.all7
    clear KB KR
    go_wp2_with fail
    refine (C2.out _ _ (HK.out _ A1.out).2.2.2.2).mono ?_
    rintro e w2 ⟨rfl, hb⟩
    have A2 : Hid (Below W0.heap.size W0 w2) := A1.out.trans (hb.mono A1.out.size)
    clear hb
    clear b0 b1 b2 b3 q0 q1 q2 q3 q4 q5 q6
    obtain ⟨KB, KR, _, _, _⟩ := HK.out _ A2.out
    obtain ⟨b0, b1, b2, b3⟩ := KB.all4
    obtain ⟨q0, q1, q2, q3, q4, q5, q6⟩ := KR.all7
    clear KB KR
    go_wp2_with fail
    refine (C3.out _).mono ?_
    rintro e w3 ⟨rfl, e2⟩
    have A3 : Hid (Below W0.heap.size W0 w3) := by rw [e2]; exact A2.out
    clear e2
    clear b0 b1 b2 b3 q0 q1 q2 q3 q4 q5 q6
    obtain ⟨KB, KR, _, _, _⟩ := HK.out _ A3.out
    obtain ⟨b0, b1, b2, b3⟩ := KB.all4
    obtain ⟨q0, q1, q2, q3, q4, q5, q6⟩ := KR.all7
    clear KB KR
    go_wp2_with fail
    refine (C4.out _).mono ?_
    rintro e w4 ⟨rfl, e2⟩
    have A4 : Hid (Below W0.heap.size W0 w4) := by rw [e2]; exact A3.out
    clear e2
    clear b0 b1 b2 b3 q0 q1 q2 q3 q4 q5 q6
    obtain ⟨KB, KR, _, _, _⟩ := HK.out _ A4.out
    obtain ⟨b0, b1, b2, b3⟩ := KB.all4
    obtain ⟨q0, q1, q2, q3, q4, q5, q6⟩ := KR.all7
    clear KB KR
    go_wp2_with fail
    exact HE.out _ (HK.out _ A4.out).2.2.1
  have H5 : Hid (r.step = b.step) := h5
  have t5 : (r.step != b.step) = false := by simp [h5]
  clear h5
  have HE : Hid (∀ w', Below w.heap.size w w' → P (.returned (.int .i64 0)) w') := HY.out HIN.out ⟨H4.out, H5.out⟩
  clear HN HI HY
  go_enter Try.func24, Try.ntmps24
  go_upto_region 1 with fail
  rw [← hW0]
  clear hW0
  obtain ⟨KB, KR, _, _, _⟩ := HK.out _ A0.out
  obtain ⟨b0, b1, b2, b3⟩ := KB.all4
  obtain ⟨q0, q1, q2, q3, q4, q5, q6⟩ := KR.all7
  clear KB KR
  go_wp2_with fail
  refine (C1.out _ _ (HK.out _ A0.out).2.2.2.1).mono ?_
  rintro e w1 ⟨rfl, hb⟩
  have A1 : Hid (Below W0.heap.size W0 w1) := A0.out.trans (hb.mono A0.out.size)
  clear hb
  clear b0 b1 b2 b3 q0 q1 q2 q3 q4 q5 q6
  obtain ⟨KB, KR, _, _, _⟩ := HK.out _ A1.out
  obtain ⟨b0, b1, b2, b3⟩ := KB.all4
  obtain ⟨q0, q1, q2, q3, q4, q5, q6⟩ := KR.all7
  clear KB KR
  go_wp2_with fail
  refine (C2.out _ _ (HK.out _ A1.out).2.2.2.2).mono ?_
  rintro e w2 ⟨rfl, hb⟩
  have A2 : Hid (Below W0.heap.size W0 w2) := A1.out.trans (hb.mono A1.out.size)
  clear hb
  clear b0 b1 b2 b3 q0 q1 q2 q3 q4 q5 q6
  obtain ⟨KB, KR, _, _, _⟩ := HK.out _ A2.out
  obtain ⟨b0, b1, b2, b3⟩ := KB.all4
  obtain ⟨q0, q1, q2, q3, q4, q5, q6⟩ := KR.all7
  clear KB KR
  go_wp2_with fail
  refine (C3.out _).mono ?_
  rintro e w3 ⟨rfl, e2⟩
  have A3 : Hid (Below W0.heap.size W0 w3) := by rw [e2]; exact A2.out
  clear e2
  clear b0 b1 b2 b3 q0 q1 q2 q3 q4 q5 q6
  obtain ⟨KB, KR, _, _, _⟩ := HK.out _ A3.out
  obtain ⟨b0, b1, b2, b3⟩ := KB.all4
  obtain ⟨q0, q1, q2, q3, q4, q5, q6⟩ := KR.all7
  clear KB KR
  go_wp2_with fail
  refine (C4.out _).mono ?_
  rintro e w4 ⟨rfl, e2⟩
  have A4 : Hid (Below W0.heap.size W0 w4) := by rw [e2]; exact A3.out
  clear e2
  clear b0 b1 b2 b3 q0 q1 q2 q3 q4 q5 q6
  obtain ⟨KB, KR, _, _, _⟩ := HK.out _ A4.out
  obtain ⟨b0, b1, b2, b3⟩ := KB.all4
  obtain ⟨q0, q1, q2, q3, q4, q5, q6⟩ := KR.all7
  clear KB KR
  go_wp2_with fail
  exact HE.out _ (HK.out _ A4.out).2.2.1
end Go.Proofs.Ytpikfiegmnmbmaa
