/-
  Contract of ckpt.mayBe: what may be saved.
-/
import Derived.Test.YthakibcfmbkpkaaSavedBar
import Derived.Test.YthakibcfmbkpkaaLeastFace
import Derived.Deep.CutRange
namespace Go.Proofs.Ythakibcfmbkpkaa
set_option maxRecDepth 100000
open Go.ChangeShapes Go.WideShapes Go.ChangeAt Go.RowKit

theorem BX.all5 {t : TypeId} {w : World} {q : Nat} {a b c d e : Value} (h : BX t w q #[a, b, c, d, e]) : w.cell? ⟨q, 0, none⟩ = some a ∧ w.cell? ⟨q, 1, none⟩ = some b ∧ w.cell? ⟨q, 2, none⟩ = some c ∧ w.cell? ⟨q, 3, none⟩ = some d ∧ w.cell? ⟨q, 4, none⟩ = some e := ⟨h.cell 0, h.cell 1, h.cell 2, h.cell 3, h.cell 4⟩
theorem svMay_head {s : SvS} (h : ¬ (0 ≤ s.step ∧ s.step ≤ 100000 ∧ (s.phase = 0 ∨ s.phase = 1))) : svMay s = false := by rw [Bool.eq_false_iff]; intro g; exact h (svMay_iff.1 g).1
theorem svMay_vals {s : SvS} (h : ¬ (s.vals.length ≤ 200 ∧ valA s.vals = true)) : svMay s = false := by rw [Bool.eq_false_iff]; intro g; exact h ⟨(svMay_iff.1 g).2.1, (svMay_iff.1 g).2.2.1⟩
theorem svMay_mail {s : SvS} (h : errL s.mail ≠ 0) : svMay s = false := by
  rw [Bool.eq_false_iff]
  intro g
  obtain ⟨_, _, _, h1, h2, _⟩ := svMay_iff.1 g
  apply h
  unfold errL
  rw [if_neg (by omega), if_pos h2]
theorem errL_zero {l : List Ml} (h : errL l = 0) : l.length ≤ 5000 ∧ srtMb l = true := by
  unfold errL at h
  by_cases h1 : l.length > 5000
  · rw [if_pos h1] at h; cases h
  · rw [if_neg h1] at h
    cases h2 : srtMb l with
    | false => rw [h2] at h; cases h
    | true => exact ⟨by omega, rfl⟩

set_option maxHeartbeats 4000000 in
set_option maxRecDepth 100000 in
theorem sMayBe_any (s : SvS) (vv vm : Value) (w : World) (hv : MlR w vv s.vals) (hm : MlR w vm s.mail) (hB : ∀ x ∈ s.mail, mlB x) :
    Calls Try.prog 22 #[.agg #[.int .i64 s.step, .int .i64 s.phase, .bool s.fresh, vv, vm]] w fun e w' => e = .returned (.bool (svMay s)) ∧ Below w.heap.size w w' := by
  have HV : Hid (MlR w vv s.vals) := hv
  have HM : Hid (MlR w vm s.mail) := hm
  have HB : Hid (∀ x ∈ s.mail, mlB x) := hB
  obtain ⟨va, vc, rfl, hvc, hvm, _, _⟩ := hv
  obtain ⟨ma, mc, rfl, hmc, hmm, _, _⟩ := hm
  unfold maxLen at hvm hmm
  have H1 : Hid (¬ (0 ≤ s.step ∧ s.step ≤ 100000 ∧ (s.phase = 0 ∨ s.phase = 1)) → svMay s = false) := svMay_head
  have H2 : Hid (¬ (s.vals.length ≤ 200 ∧ valA s.vals = true) → svMay s = false) := svMay_vals
  have H3 : Hid (errL s.mail ≠ 0 → svMay s = false) := svMay_mail
  have H4 : Hid ((0 ≤ s.step ∧ s.step ≤ 100000 ∧ (s.phase = 0 ∨ s.phase = 1)) → (s.vals.length ≤ 200 ∧ valA s.vals = true) → errL s.mail = 0 → svMay s = mayA s.mail) := fun h1 h2 h3 => by
    obtain ⟨h4, h5⟩ := errL_zero h3
    rw [Bool.eq_iff_iff, svMay_iff]
    exact ⟨fun h => h.2.2.2.2.2, fun h => ⟨h1, h2.1, h2.2, h4, h5, h⟩⟩
  have CV : Hid (∀ X, MlR X (.slice va s.vals.length vc) s.vals → Calls Try.prog 34 #[.slice va s.vals.length vc, .func (.func 35) #[] #[]] X fun e w' => e = .returned (.bool (!valA s.vals)) ∧ Below X.heap.size X w') := fun X hX => containsVal_any _ s.vals X hX
  have CL : Hid (∀ X, MlR X (.slice ma s.mail.length mc) s.mail → Calls Try.prog 36 #[.slice ma s.mail.length mc] X (RefP X (errL s.mail) (lowM s.mail))) := fun X hX => least_any _ s.mail X hX
  have CM : Hid (∀ X, MlR X (.slice ma s.mail.length mc) s.mail → Calls Try.prog 37 #[.slice ma s.mail.length mc, .func (.func 38) #[] #[]] X fun e w' => e = .returned (.bool (!mayA s.mail)) ∧ Below X.heap.size X w') := fun X hX => containsMal_any _ s.mail X hX HB.out
  generalize svMay s = r at *
  generalize valA s.vals = bv at *
  generalize mayA s.mail = bm at *
  generalize lowM s.mail = lo at *
  generalize errL s.mail = el at *
  obtain ⟨st, ph, fr, vs, ms⟩ := s
  simp only at HV HM H1 H2 H3 H4 CV CL CM hvc hvm hmc hmm ⊢
  clear hB HB
  generalize vs.length = nv at *
  generalize ms.length = nm at *
  have X0 : BX 27 (w.alloc (.cells #[.int .i64 st, .int .i64 ph, .bool fr, .slice va nv vc, .slice ma nm mc] 27)) w.heap.size #[.int .i64 st, .int .i64 ph, .bool fr, .slice va nv vc, .slice ma nm mc] := BX.new _ _ _
  have B0 : Below w.heap.size w (w.alloc (.cells #[.int .i64 st, .int .i64 ph, .bool fr, .slice va nv vc, .slice ma nm mc] 27)) := below_alloc _ _
  go_enter Try.func22, Try.ntmps22
  go_upto_region 1 with fail
  generalize w.alloc (.cells #[.int .i64 st, .int .i64 ph, .bool fr, .slice va nv vc, .slice ma nm mc] 27) = W0 at *
  have HK : Hid (∀ X, Below W0.heap.size W0 X → BX 27 X w.heap.size #[.int .i64 st, .int .i64 ph, .bool fr, .slice va nv vc, .slice ma nm mc] ∧ Below w.heap.size w X ∧ MlR X (.slice va nv vc) vs ∧ MlR X (.slice ma nm mc) ms) := fun X hX => ⟨X0.below hX X0.lt, B0.trans (hX.mono B0.size), HV.out.below (B0.trans (hX.mono B0.size)) (Nat.le_refl _), HM.out.below (B0.trans (hX.mono B0.size)) (Nat.le_refl _)⟩
  have A0 : Hid (Below W0.heap.size W0 W0) := Below.refl _ _
  have BW0 : Hid (Below w.heap.size w W0) := B0
  obtain ⟨c0, c1, c2, c3, c4⟩ := X0.all5
  clear X0 B0 HV HM
  obtain ⟨b1, hb1⟩ : ∃ b : Bool, b = decide (¬ (0 ≤ st ∧ st ≤ 100000 ∧ (ph = 0 ∨ ph = 1))) := ⟨_, rfl⟩
  have HB1 : Hid (b1 = decide (¬ (0 ≤ st ∧ st ≤ 100000 ∧ (ph = 0 ∨ ph = 1)))) := hb1
  clear hb1
  go_cut [22] from 22 to 22 (fun t wx => t = .bool b1 ∧ W0 = wx)
  case first =>
    clear H1 H2 H3 H4 CV CL CM HK
    by_cases h1 : st < 0
    · have e : Hid (Value.bool true = .bool b1) := by show _ = _; rw [HB1.out, decide_eq_true (by omega)]
      clear HB1
      go_wp2_with fail
      go_meet
      case rel => exact ⟨e.out, rfl⟩
    · by_cases h2 : st > 100000
      · have e : Hid (Value.bool true = .bool b1) := by show _ = _; rw [HB1.out, decide_eq_true (by omega)]
        clear HB1
        go_wp2_with fail
        go_meet
        case rel => exact ⟨e.out, rfl⟩
      · by_cases h3 : ph = 0
        · have e : Hid (Value.bool false = .bool b1) := by show _ = _; rw [HB1.out, decide_eq_false (by omega)]
          have t3 : (ph != 0) = false := by simpa using h3
          clear HB1 h3
          go_wp2_with fail
          go_meet
          case rel => exact ⟨e.out, rfl⟩
        · have t3 : (ph != 0) = true := by simpa using h3
          by_cases h4 : ph = 1
          · have e : Hid (Value.bool false = .bool b1) := by show _ = _; rw [HB1.out, decide_eq_false (by omega)]
            have t4 : (ph != 1) = false := by simpa using h4
            clear HB1 h3 h4
            go_wp2_with fail
            go_meet
            case rel => exact ⟨e.out, rfl⟩
          · have e : Hid (Value.bool true = .bool b1) := by show _ = _; rw [HB1.out, decide_eq_true (by omega)]
            have t4 : (ph != 1) = true := by simpa using h4
            clear HB1 h3 h4
            go_wp2_with fail
            go_meet
            case rel => exact ⟨e.out, rfl⟩
  case rest =>
  obtain ⟨rfl, rfl⟩ := hcut
  cases b1
  · have HH : Hid (0 ≤ st ∧ st ≤ 100000 ∧ (ph = 0 ∨ ph = 1)) := by have h := of_decide_eq_false HB1.out.symm; exact Classical.not_not.1 h
    clear HB1 H1
    go_upto_region 3 with fail
    obtain ⟨b2, hb2⟩ : ∃ b : Bool, b = decide (¬ (nv ≤ 200 ∧ bv = true)) := ⟨_, rfl⟩
    have HB2 : Hid (b2 = decide (¬ (nv ≤ 200 ∧ bv = true))) := hb2
    clear hb2
    go_cut [31] from 31 to 31 (fun t wx => t = .bool b2 ∧ Below W0.heap.size W0 wx)
    case first =>
      by_cases h1 : 200 < nv
      · have e : Hid (Value.bool true = .bool b2) := by show _ = _; rw [HB2.out, decide_eq_true (by omega)]
        have t1 : decide ((nv : Int) > 200) = true := decide_eq_true (by omega)
        have t1' : (200 : Int) < (nv : Int) := by omega
        clear HB2 H2 H3 H4 CV CL CM
        go_wp2_with fail
        go_meet
        case rel => exact ⟨e.out, A0.out⟩
      · have e : Hid (Value.bool (!bv) = .bool b2) := by
          show _ = _
          rw [HB2.out]
          cases bv
          · rw [decide_eq_true (by simp)]; rfl
          · rw [decide_eq_false (by simp; omega)]; rfl
        have t1 : decide ((nv : Int) > 200) = false := decide_eq_false (by omega)
        have t1' : ¬ (200 : Int) < (nv : Int) := by omega
        clear HB2 H2 H3 H4 CL CM
        go_wp2_with fail
        refine (CV.out _ (HK.out _ A0.out).2.2.1).mono ?_
        rintro e w1 ⟨rfl, hb1⟩
        have A1 : Hid (Below W0.heap.size W0 w1) := hb1
        clear hb1
        go_wp2_with fail
        go_meet
        case rel => exact ⟨e.out, A1.out⟩
    case rest =>
    obtain ⟨rfl, hbc⟩ := hcut
    have AC : Hid (Below W0.heap.size W0 wc) := hbc
    obtain ⟨Q1, bw1, _, _⟩ := HK.out _ hbc
    have BW1 : Hid (Below w.heap.size w wc) := bw1
    clear c0 c1 c2 c3 c4 hbc bw1
    obtain ⟨c0, c1, c2, c3, c4⟩ := Q1.all5
    clear Q1
    cases b2
    · have HJ : Hid (nv ≤ 200 ∧ bv = true) := by have h := of_decide_eq_false HB2.out.symm; exact Classical.not_not.1 h
      clear HB2 H2 CV
      go_wp2_with fail
      refine (CL.out _ (HK.out _ AC.out).2.2.2).mono ?_
      rintro e w2 ⟨v2, rfl, ho2, hb2⟩
      have A2 : Hid (Below W0.heap.size W0 w2) := AC.out.trans (hb2.mono AC.out.size)
      obtain ⟨Q2, bw2, _, _⟩ := HK.out _ A2.out
      have BW2 : Hid (Below w.heap.size w w2) := bw2
      clear c0 c1 c2 c3 c4 ho2 hb2 bw2 AC BW1
      obtain ⟨c0, c1, c2, c3, c4⟩ := Q2.all5
      clear Q2
      by_cases h3 : el = 0
      · have e := H4.out HH.out HJ.out h3
        have HR : Hid (r = bm) := e
        have t3 : (el != 0) = false := by simpa using h3
        clear e h3 H3 H4 CL
        go_wp2_with fail
        refine (CM.out _ (HK.out _ A2.out).2.2.2).mono ?_
        rintro e w3 ⟨rfl, hb3⟩
        have BW3 : Hid (Below w.heap.size w w3) := BW2.out.trans (hb3.mono BW2.out.size)
        clear hb3 c0 c1 c2 c3 c4
        go_wp2_with fail
        go_ret
        exact ⟨ret_bool (by rw [HR.out]), BW3.out⟩
      · have e := H3.out h3
        subst e
        have t3 : (el != 0) = true := by simpa using h3
        clear h3 H3 H4 CL CM
        go_wp2_with fail
        go_ret
        exact ⟨rfl, BW2.out⟩
    · have e := H2.out (by have := HB2.out; exact of_decide_eq_true this.symm)
      subst e
      clear HB2 H2 H3 H4 CV CL CM
      go_wp2_with fail
      go_ret
      exact ⟨rfl, BW1.out⟩
  · have e := H1.out (by have := HB1.out; exact of_decide_eq_true this.symm)
    subst e
    clear HB1 H1 H2 H3 H4 CV CL CM
    go_wp2_with fail
    go_ret
    exact ⟨rfl, BW0.out⟩
end Go.Proofs.Ythakibcfmbkpkaa
