/-
  Contract of rounds.check: a job, then a state of it.
  make([]int, m).
  Contract of rounds.Answer.
  Contracts of the document's own GraphFault.
  Contract of the document's own JobFault.
  Contract of the document's own Answered.
  Contract of the law's own sameInts, of lists that read alike.
  Contracts of the law's own sameValues and sameState, of what reads alike.
-/
import Derived.Test.YtooaigcjpkhdhaaRndCheck
import Derived.Test.YtooaigcjpkhdhaaRndMay
import Derived.Test.YtooaigcjpkhdhaaRoundTell
import Derived.Test.YtooaigcjpkhdhaaRowNew
import Derived.Test.YtooaigcjpkhdhaaIntRow
import Derived.Test.YtooaigcjpkhdhaaStaMem
import Derived.Test.YtooaigcjpkhdhaaCheckFace
import Derived.Test.YtooaigcjpkhdhaaInWalk
import Derived.Test.YtooaigcjpkhdhaaRefJob0
import Derived.Test.YtooaigcjpkhdhaaBoxMem
import Derived.Deep.CutRange
import Derived.Test.YtooaigcjpkhdhaaRefStaCopy
import Derived.Test.YtooaigcjpkhdhaaRowCore
import Derived.Deep.QuietTactic
import Derived.BigQuiet
import Derived.Test.YtooaigcjpkhdhaaMayMath
import Derived.Test.YtooaigcjpkhdhaaRegionCall
import Derived.Shelf.Abstract

namespace Go.Proofs.Ytooaigcjpkhdhaa
set_option maxRecDepth 100000
open Go.ChangeShapes Go.WideShapes Go.ChangeAt Go.RowKit

/-- Which error. -/
def staE (n : Int) (es : List Ed) (k s : Int) (T : StS) : Int := if jobE n es k s ≠ 0 then jobE n es k s else if mayR n.toNat k T then 0 else 9

set_option maxHeartbeats 2000000 in
set_option maxRecDepth 100000 in
theorem rState_any (v : Value) (es : List Ed) (n k s : Int) (T : StS) (vv vm : Value) (w : World) (h : EdR w v es) (hv : MlR w vv T.vals) (hm : LiR w vm T.mail) :
    Calls Try.prog 36 #[.agg #[.int .i64 n, v, .int .i64 k, .int .i64 s], .agg #[.int .i64 T.step, .int .i64 T.phase, .bool T.fresh, .bool T.done, vv, vm]] w fun e w' => e = .returned (.int .i64 (staE n es k s T)) ∧ Below w.heap.size w w' := by
  have HR : Hid (EdR w v es) := h
  obtain ⟨a, cap, rfl, _, _, _, _⟩ := h
  have HCK : Hid (∀ X, EdR X (.slice a es.length cap) es → Calls Try.prog 9 #[.agg #[.int .i64 n, .slice a es.length cap, .int .i64 k, .int .i64 s]] X fun e w' => e = .returned (.int .i64 (jobE n es k s)) ∧ Below X.heap.size X w') := fun X hX => rCheck_any _ es n k s X hX
  have HV : Hid (MlR w vv T.vals) := hv
  have HM : Hid (LiR w vm T.mail) := hm
  obtain ⟨va, vc, rfl, hvc, hvm, _, _⟩ := hv
  obtain ⟨ma, mc, rfl, hmc, hmm, _⟩ := hm
  have HSM : Hid (∀ X, jobE n es k s = 0 → MlR X (.slice va T.vals.length vc) T.vals → LiR X (.slice ma T.mail.length mc) T.mail → Calls Try.prog 50 #[.agg #[.int .i64 n, .slice a es.length cap, .int .i64 k, .int .i64 s], .agg #[.int .i64 T.step, .int .i64 T.phase, .bool T.fresh, .bool T.done, .slice va T.vals.length vc, .slice ma T.mail.length mc]] X fun e w' => e = .returned (.bool (mayR n.toNat k T)) ∧ Below X.heap.size X w') := fun X hj h1 h2 => by
    obtain ⟨hf, _, _⟩ := jobE_zero hj
    obtain ⟨hn0, hn1, _, _⟩ := fault_ok hf
    obtain ⟨m, rfl⟩ : ∃ m : Nat, n = m := ⟨n.toNat, by omega⟩
    rw [Int.toNat_natCast]
    exact rMay_any a es.length cap m k s T _ _ X h1 h2 (by omega)
  have HE1 : Hid (jobE n es k s ≠ 0 → staE n es k s T = jobE n es k s) := fun h => if_pos h
  have HE2 : Hid (jobE n es k s = 0 → staE n es k s T = if mayR n.toNat k T then 0 else 9) := fun h => if_neg (by simp [h])
  generalize staE n es k s T = R at *
  generalize mayR n.toNat k T = mr at *
  obtain ⟨step, phase, fr, dn, vs, ms⟩ := T
  simp only at HV HM hvc hvm hmc hmm HSM HE1 HE2 ⊢
  obtain ⟨W0, hW0⟩ : ∃ W0, W0 = (w.alloc (.cells #[.int .i64 n, .slice a es.length cap, .int .i64 k, .int .i64 s] 26)).alloc (.cells #[.int .i64 step, .int .i64 phase, .bool fr, .bool dn, .slice va vs.length vc, .slice ma ms.length mc] 34) := ⟨_, rfl⟩
  obtain ⟨Q0, T0, B0, s1, s2⟩ := boxes2 w #[.int .i64 n, .slice a es.length cap, .int .i64 k, .int .i64 s] #[.int .i64 step, .int .i64 phase, .bool fr, .bool dn, .slice va vs.length vc, .slice ma ms.length mc] 26 34 W0 hW0
  have BH : Hid (Below w.heap.size w W0) := B0
  have HK : Hid (∀ X, Below W0.heap.size W0 X → BX 26 X w.heap.size #[.int .i64 n, .slice a es.length cap, .int .i64 k, .int .i64 s] ∧ BX 34 X (w.heap.size + 1) #[.int .i64 step, .int .i64 phase, .bool fr, .bool dn, .slice va vs.length vc, .slice ma ms.length mc] ∧ Below w.heap.size w X) := fun X hX => ⟨Q0.below hX (by omega), T0.below hX (by omega), BH.out.trans (hX.mono (by omega))⟩
  have R0 : Hid (EdR W0 (.slice a es.length cap) es) := HR.out.below BH.out (Nat.le_refl _)
  have HVX : Hid (∀ X, Below W0.heap.size W0 X → MlR X (.slice va vs.length vc) vs ∧ LiR X (.slice ma ms.length mc) ms) := fun X hX => ⟨HV.out.below (HK.out _ hX).2.2 (Nat.le_refl _), HM.out.below (HK.out _ hX).2.2 (Nat.le_refl _)⟩
  obtain ⟨q0, q1, q2, q3⟩ := Q0.all4
  clear Q0 T0 B0
  by_cases hj : jobE n es k s = 0
  · have HSX : Hid (∀ X, Below W0.heap.size W0 X → _) := fun X hX => HSM.out X hj (HVX.out X hX).1 (HVX.out X hX).2
    have HE : Hid (R = if mr then 0 else 9) := HE2.out hj
    rw [hj] at HCK
    clear hj HE1 HE2 HSM
    go_enter Try.func36, Try.ntmps36
    go_upto_region 1 with fail
    rw [← hW0]
    clear hW0
    go_wp2_with fail
    refine (HCK.out _ R0.out).mono ?_
    rintro e w1 ⟨rfl, hb1⟩
    have A1 : Hid (Below W0.heap.size W0 w1) := hb1
    clear q0 q1 q2 q3 HCK hb1
    obtain ⟨Q1, T1, _⟩ := HK.out _ A1.out
    obtain ⟨q0, q1, q2, q3⟩ := Q1.all4
    obtain ⟨⟨c0, c1, c2, c3, c4, c5⟩, _⟩ := T1.all6
    have hs1 := A1.out.size
    clear Q1 T1
    go_wp2_with fail
    refine (HSX.out _ A1.out).mono ?_
    rintro e w2 ⟨rfl, hb2⟩
    have A2 : Hid (Below w.heap.size w w2) := (HK.out _ (A1.out.trans (hb2.mono hs1))).2.2
    clear q0 q1 q2 q3 c0 c1 c2 c3 c4 c5 hb2 HSX
    cases mr
    · go_wp2_with fail
      go_ret
      exact ⟨by rw [HE.out]; rfl, A2.out⟩
    · go_wp2_with fail
      go_ret
      exact ⟨by rw [HE.out]; rfl, A2.out⟩
  · have HE : Hid (R = jobE n es k s) := HE1.out hj
    generalize jobE n es k s = je at *
    have t0 : (je != 0) = true := by simpa using hj
    clear hj HE1 HE2 HSM
    go_enter Try.func36, Try.ntmps36
    go_upto_region 1 with fail
    rw [← hW0]
    clear hW0
    go_wp2_with fail
    refine (HCK.out _ R0.out).mono ?_
    rintro e w1 ⟨rfl, hb1⟩
    have BW : Hid (Below w.heap.size w w1) := (HK.out _ hb1).2.2
    clear hb1 q0 q1 q2 q3 HCK
    go_wp2_with fail
    go_ret
    exact ⟨by rw [HE.out]; rfl, BW.out⟩
end Go.Proofs.Ytooaigcjpkhdhaa

namespace Go.Proofs.Ytooaigcjpkhdhaa
set_option maxRecDepth 100000
open Go.ChangeShapes Go.WideShapes Go.ChangeAt Go.RowKit

theorem made_zero (m : Nat) : (madeCells (Value.int .i64 0).cells (m * 1)).toList = (List.replicate m (0 : Int)).flatMap encI := by
  rw [flatI]
  simp [madeCells, Value.cells]
  refine List.ext_getElem? fun v => ?_
  rcases Nat.lt_or_ge v m with hv | hv
  · rw [List.getElem?_map, List.getElem?_range hv, List.getElem?_replicate, if_pos hv]
    simp [Nat.mod_one]
  · rw [List.getElem?_eq_none (by simpa using hv), List.getElem?_eq_none (by simpa using hv)]
/-- make([]int, m). -/
theorem make_ints (w : World) (m : Nat) (hm : m ≤ 1000000) :
    ∃ w', (Instr.makeSlice 41 (.int .i64 (m : Int)) (.int .i64 (m : Int))).run Try.prog w = .ok (.slice (some ⟨w.heap.size, 0, none⟩) m m) w' ∧
      w'.ownsRow w.heap.size 3 1 (.slice (some ⟨w.heap.size, 0, none⟩) m m) m ((List.replicate m (0 : Int)).flatMap encI) ∧ Below w.heap.size w w' := by
  obtain ⟨i0, hi, hz0, hz1, hz2⟩ := info_parts Try.info3
  obtain ⟨w', h1, h2, h3⟩ := run_makeSlice_full (P := Try.prog) w w.heap.size 41 3 i0 (.int .i64 0) 1 Try.underlying41 hi hz0 hz1 .i64 .i64 m (by omega) (by rw [hz2]; omega) (by unfold maxLen; omega) (Nat.le_refl _)
  rw [made_zero] at h2
  exact ⟨w', h1, h2, (Below.refl _ _).grown h3 (Nat.le_refl _) (fun k hk => by cases hk)⟩
end Go.Proofs.Ytooaigcjpkhdhaa

namespace Go.Proofs.Ytooaigcjpkhdhaa
set_option maxRecDepth 100000
open Go.ChangeShapes Go.WideShapes Go.ChangeAt Go.RowKit

theorem ansE_not {n k s : Int} {es : List Ed} {T : StS} (h : staE n es k s T ≠ 0) : ansE n es k s T = (staE n es k s T, []) := by
  unfold ansE
  by_cases h1 : jobE n es k s = 0
  · rw [if_neg (by simp [h1])]
    have e : staE n es k s T = if mayR n.toNat k T then 0 else 9 := by unfold staE; rw [if_neg (by simp [h1])]
    cases h2 : mayR n.toNat k T
    · rw [e, h2]; rfl
    · rw [e, h2] at h; exact absurd rfl h
  · have e : staE n es k s T = jobE n es k s := by unfold staE; rw [if_pos h1]
    rw [if_pos h1, e]
theorem staE_fine {n k s : Int} {es : List Ed} {T : StS} (h : staE n es k s T = 0) : jobE n es k s = 0 ∧ mayR n.toNat k T = true := by
  unfold staE at h
  by_cases h1 : jobE n es k s = 0
  · rw [if_neg (by simp [h1])] at h
    refine ⟨h1, ?_⟩
    cases h2 : mayR n.toNat k T
    · rw [h2] at h; simp at h
    · rfl
  · rw [if_pos h1] at h; exact absurd h h1
/-- The numbers, as far as they are told. -/
def anP (k : Int) (vs : List Ml) (c : Nat) : List Int := (vs.map (tellV k)).take c ++ List.replicate (vs.length - c) 0
theorem anP_len {k : Int} {vs : List Ml} {c : Nat} (h : c ≤ vs.length) : (anP k vs c).length = vs.length := by simp [anP]; omega
theorem anP_zero (k : Int) (vs : List Ml) : anP k vs 0 = List.replicate vs.length 0 := by simp [anP]
theorem anP_all (k : Int) (vs : List Ml) : anP k vs vs.length = vs.map (tellV k) := by
  unfold anP
  rw [List.take_of_length_le (by simp)]
  simp
theorem anP_set {k : Int} {vs : List Ml} {c : Nat} {x : Ml} (h : vs[c]? = some x) : anP k vs (c + 1) = (anP k vs c).set c (tellV k x) := by
  have hc := (List.getElem?_eq_some_iff.1 h).1
  unfold anP
  rw [take_snoc (show (vs.map (tellV k))[c]? = some (tellV k x) by rw [List.getElem?_map, h]; rfl), List.append_assoc, show vs.length - c = (vs.length - (c + 1)) + 1 by omega, List.replicate_succ, List.set_append_right _ _ (by simp; omega)]
  simp [Nat.min_eq_left (Nat.le_of_lt hc)]

set_option maxHeartbeats 4000000 in
set_option maxRecDepth 100000 in
theorem rAnswer_any (v : Value) (es : List Ed) (n k s : Int) (T : StS) (vv vm : Value) (w : World) (h : EdR w v es) (hv : MlR w vv T.vals) (hm : LiR w vm T.mail) :
    Calls Try.prog 20 #[.agg #[.int .i64 n, v, .int .i64 k, .int .i64 s], .agg #[.int .i64 T.step, .int .i64 T.phase, .bool T.fresh, .bool T.done, vv, vm]] w (NumP w (ansE n es k s T)) := by
  have HR : Hid (EdR w v es) := h
  obtain ⟨a, cap, rfl, _, _, _, _⟩ := h
  have HV : Hid (MlR w vv T.vals) := hv
  have HM : Hid (LiR w vm T.mail) := hm
  obtain ⟨va, vc, rfl, hvc, hvm, _, _⟩ := hv
  obtain ⟨ma, mc, rfl, hmc, hmm, _⟩ := hm
  unfold maxLen at hvm hmm
  have CS : Hid (∀ X, EdR X (.slice a es.length cap) es → MlR X (.slice va T.vals.length vc) T.vals → LiR X (.slice ma T.mail.length mc) T.mail → Calls Try.prog 36 #[.agg #[.int .i64 n, .slice a es.length cap, .int .i64 k, .int .i64 s], .agg #[.int .i64 T.step, .int .i64 T.phase, .bool T.fresh, .bool T.done, .slice va T.vals.length vc, .slice ma T.mail.length mc]] X fun e w' => e = .returned (.int .i64 (staE n es k s T)) ∧ Below X.heap.size X w') := fun X h1 h2 h3 => rState_any _ es n k s T _ _ X h1 h2 h3
  have HNE : Hid (staE n es k s T ≠ 0 → ansE n es k s T = (staE n es k s T, [])) := ansE_not
  have HWT : Hid (staE n es k s T = 0 → T.done = false → ansE n es k s T = (12, [])) := fun h h2 => by
    obtain ⟨h3, h4⟩ := staE_fine h
    unfold ansE; rw [if_neg (by simp [h3]), if_neg (by simp [h4]), if_pos h2]
  have HYE : Hid (staE n es k s T = 0 → T.done = true → ansE n es k s T = (0, T.vals.map (tellV k))) := fun h h2 => by
    obtain ⟨h3, h4⟩ := staE_fine h
    unfold ansE; rw [if_neg (by simp [h3]), if_neg (by simp [h4]), if_neg (by simp [h2])]
  have HSZ : Hid (staE n es k s T = 0 → T.vals.length ≤ 200) := fun h => by
    obtain ⟨h3, h4⟩ := staE_fine h
    have h5 := (mayR_size h4).1
    have h6 := fault_ok (jobE_zero h3).1
    omega
  generalize ansE n es k s T = R at *
  generalize staE n es k s T = se at *
  obtain ⟨step, phase, fr, dn, vs, ms⟩ := T
  simp only at HV HM hvc hvm hmc hmm CS HWT HYE HSZ ⊢
  obtain ⟨W0, hW0⟩ : ∃ W0, W0 = (w.alloc (.cells #[.int .i64 n, .slice a es.length cap, .int .i64 k, .int .i64 s] 26)).alloc (.cells #[.int .i64 step, .int .i64 phase, .bool fr, .bool dn, .slice va vs.length vc, .slice ma ms.length mc] 34) := ⟨_, rfl⟩
  obtain ⟨Q0, T0, B0, s1, s2⟩ := boxes2 w #[.int .i64 n, .slice a es.length cap, .int .i64 k, .int .i64 s] #[.int .i64 step, .int .i64 phase, .bool fr, .bool dn, .slice va vs.length vc, .slice ma ms.length mc] 26 34 W0 hW0
  have BH : Hid (Below w.heap.size w W0) := B0
  have HK : Hid (∀ X, Below W0.heap.size W0 X → BX 26 X w.heap.size #[.int .i64 n, .slice a es.length cap, .int .i64 k, .int .i64 s] ∧ BX 34 X (w.heap.size + 1) #[.int .i64 step, .int .i64 phase, .bool fr, .bool dn, .slice va vs.length vc, .slice ma ms.length mc] ∧ Below w.heap.size w X) := fun X hX => ⟨Q0.below hX (by omega), T0.below hX (by omega), BH.out.trans (hX.mono (by omega))⟩
  have R0 : Hid (∀ X, Below W0.heap.size W0 X → EdR X (.slice a es.length cap) es ∧ MlR X (.slice va vs.length vc) vs ∧ LiR X (.slice ma ms.length mc) ms) := fun X hX => ⟨HR.out.below (HK.out _ hX).2.2 (Nat.le_refl _), HV.out.below (HK.out _ hX).2.2 (Nat.le_refl _), HM.out.below (HK.out _ hX).2.2 (Nat.le_refl _)⟩
  have A0 : Hid (Below W0.heap.size W0 W0) := Below.refl _ _
  have CS0 : Hid (∀ X, Below W0.heap.size W0 X → _) := fun X hX => CS.out X (R0.out X hX).1 (R0.out X hX).2.1 (R0.out X hX).2.2
  obtain ⟨q0, q1, q2, q3⟩ := Q0.all4
  obtain ⟨⟨c0, c1, c2, c3, c4, c5⟩, _⟩ := T0.all6
  clear Q0 T0 B0 CS
  by_cases h0 : se = 0
  · have hsz := HSZ.out h0
    have HW2 : Hid (dn = false → R = (12, [])) := HWT.out h0
    have HY2 : Hid (dn = true → R = (0, vs.map (tellV k))) := HYE.out h0
    rw [h0] at CS0
    clear h0 HNE HWT HYE HSZ
    go_enter Try.func20, Try.ntmps20
    go_upto_region 1 with fail
    rw [← hW0]
    clear hW0
    go_wp2_with fail
    refine (CS0.out _ A0.out).mono ?_
    rintro e w1 ⟨rfl, hb1⟩
    have A1 : Hid (Below W0.heap.size W0 w1) := hb1
    obtain ⟨Q1, T1, hbw⟩ := HK.out _ hb1
    have BW : Hid (Below w.heap.size w w1) := hbw
    clear q0 q1 q2 q3 c0 c1 c2 c3 c4 c5 hb1 CS0
    obtain ⟨q0, q1, q2, q3⟩ := Q1.all4
    obtain ⟨⟨c0, c1, c2, c3, c4, c5⟩, _⟩ := T1.all6
    clear Q1 T1 hbw
    cases dn
    · have HP : Hid (NumP w R (.returned (.tuple #[.slice none 0 0, .int .i64 12])) w1) := by
        show NumP _ _ _ _
        rw [HW2.out rfl]
        exact NumP.no BW.out
      go_wp2_with fail
      exact bodyPost_ret (v := .tuple #[.slice none 0 0, .int .i64 12]) (by simp [results, Try.results20, go_sem]) rfl HP.out
    · have HRR : Hid (R = (0, vs.map (tellV k))) := HY2.out rfl
      obtain ⟨w2, hmk, hon, hb2⟩ := make_ints w1 vs.length (by omega)
      have A2 : Hid (Below W0.heap.size W0 w2) := A1.out.trans (hb2.mono A1.out.size)
      have ON : Hid (w2.ownsRow W0.heap.size 3 1 (.slice (some ⟨w1.heap.size, 0, none⟩) vs.length vs.length) vs.length ((anP k vs 0).flatMap encI)) := by
        show World.ownsRow _ _ _ _ _ _ _
        rw [anP_zero]; exact own_lower hon A1.out.size
      obtain ⟨_, T2, _⟩ := HK.out _ A2.out
      obtain ⟨⟨m0, m1, m2, m3, m4, m5⟩, _⟩ := T2.all6
      generalize hg0 : w1.heap.size = g at *
      clear HW2 HY2 hon hb2 T2 hg0
      go_wp2_with fail
      clear q0 q1 q2 q3 c0 c1 c2 c3 c4 c5 m0 m1 m2 m3 m4 m5 hmk
      go_loopw [26] (fun i wr => ∃ c : Nat, c ≤ vs.length ∧ i = .int .i64 c ∧ wr.ownsRow W0.heap.size 3 1 (.slice (some ⟨g, 0, none⟩) vs.length vs.length) vs.length ((anP k vs c).flatMap encI) ∧ Below W0.heap.size W0 wr) (fun i _ => vs.length - (intOf i).toNat)
      case atStart => exact ⟨0, by omega, rfl, ON.out, A2.out⟩
      case round =>
        obtain ⟨c, hc, rfl, hown, hbel⟩ := hrel
        have OW : Hid (wr.ownsRow W0.heap.size 3 1 (.slice (some ⟨g, 0, none⟩) vs.length vs.length) vs.length ((anP k vs c).flatMap encI)) := hown
        have AB : Hid (Below W0.heap.size W0 wr) := hbel
        have hsr := hbel.size
        clear hown hbel ON A2 A1
        by_cases hlt : c < vs.length
        · obtain ⟨b1, o1, cap1, e1, lt1, hv1⟩ := MlR.read (R0.out _ AB.out).2.1 (by omega)
          injection e1 with e1 _ e3
          subst e1 e3
          obtain ⟨x, hx⟩ := getX hlt
          obtain ⟨d0, d1⟩ := hv1 c x hx
          have hgl := OW.out.lt g rfl
          have HNX : Hid (anP k vs (c + 1) = (anP k vs c).set c (tellV k x)) := anP_set hx
          obtain ⟨y, hy⟩ := getX (show c < (anP k vs c).length by rw [anP_len hc]; exact hlt)
          have p0 : (0 : Int) ≤ (c : Int) := by omega
          have p1 : (c : Int) < (vs.length : Int) := by omega
          obtain ⟨w3, hw3⟩ : ∃ w3, w3 = wr.alloc (.cells #[.int .i64 x.1, .int .i64 x.2] 59) := ⟨_, rfl⟩
          have X3 : BX 59 w3 wr.heap.size #[.int .i64 x.1, .int .i64 x.2] := by rw [hw3]; exact BX.new _ _ _
          have ba : Below wr.heap.size wr w3 := by rw [hw3]; exact below_alloc _ _
          have A3 : Hid (Below W0.heap.size W0 w3) := AB.out.trans (ba.mono hsr)
          have O3 : Hid (w3.ownsRow W0.heap.size 3 1 (.slice (some ⟨g, 0, none⟩) vs.length vs.length) vs.length ((anP k vs c).flatMap encI)) := own_below OW.out ba (Nat.le_refl _)
          obtain ⟨z0, z1, _⟩ := X3.all2
          have k0 := own_atN O3.out hy
          have f0 := frozenK O3.out c
          obtain ⟨w4, hw4⟩ : ∃ w4, w4 = w3.setCell ⟨g, c, none⟩ (.int .i64 x.1) := ⟨_, rfl⟩
          have kp4 : Kept (fun k => k = g) w3 w4 := by rw [hw4]; exact Kept.box _ _ _ _
          have A4 : Hid (Below W0.heap.size W0 w4) := by show Below _ _ _; rw [hw4]; exact A3.out.setCell (p := ⟨g, c, none⟩) hgl.1 _
          have O4 : Hid (w4.ownsRow W0.heap.size 3 1 (.slice (some ⟨g, 0, none⟩) vs.length vs.length) vs.length (((anP k vs c).set c x.1).flatMap encI)) := by show World.ownsRow _ _ _ _ _ _ _; rw [hw4]; exact own_setN O3.out
          have X4 := X3.kept kp4 (by omega)
          obtain ⟨y0, y1, _⟩ := X4.all2
          have HW4 : Hid (w4 = w3.setCell ⟨g, c, none⟩ (.int .i64 x.1)) := hw4
          clear hv1 hx hy hw4 X3 X4
          go_upto_region 10 with fail
          rw [← hw3]
          clear hw3
          go_upto_region 11 with fail
          rw [← HW4.out]
          clear HW4 z0 z1 k0 f0 d0 d1 kp4 ba
          obtain ⟨Q4, _, _⟩ := HK.out _ A4.out
          obtain ⟨q0, q1, q2, q3⟩ := Q4.all4
          clear Q4
          by_cases hk3 : k = 3
          · have ht : tellV k x = x.2 := by unfold tellV; rw [if_pos hk3]
            rw [ht] at HNX
            have t3 : (k == 3) = true := by simpa using hk3
            have hcl : c < ((anP k vs c).set c x.1).length := by rw [List.length_set, anP_len hc]; exact hlt
            have k0 := own_atN O4.out (List.getElem?_eq_getElem hcl)
            have f0 := frozenK O4.out c
            have O5 : Hid ((w4.setCell ⟨g, c, none⟩ (.int .i64 x.2)).ownsRow W0.heap.size 3 1 (.slice (some ⟨g, 0, none⟩) vs.length vs.length) vs.length ((anP k vs (c + 1)).flatMap encI)) := by
              show World.ownsRow _ _ _ _ _ _ _
              have := own_setN (j := c) (x := x.2) O4.out
              rw [List.set_set] at this
              rw [HNX.out]; exact this
            have A5 : Hid (Below W0.heap.size W0 (w4.setCell ⟨g, c, none⟩ (.int .i64 x.2))) := A4.out.setCell (p := ⟨g, c, none⟩) hgl.1 _
            clear ht hk3
            go_wp2_with fail
            go_roundw
            case rel => exact ⟨c + 1, by omega, by go_num, O5.out, A5.out⟩
            case measure => simp [intOf]; omega
          · have ht : tellV k x = x.1 := by unfold tellV; rw [if_neg hk3]
            rw [ht] at HNX
            have t3 : (k == 3) = false := by simpa using hk3
            have O5 : Hid (w4.ownsRow W0.heap.size 3 1 (.slice (some ⟨g, 0, none⟩) vs.length vs.length) vs.length ((anP k vs (c + 1)).flatMap encI)) := by
              show World.ownsRow _ _ _ _ _ _ _
              rw [HNX.out]; exact O4.out
            clear ht hk3
            go_wp2_with fail
            go_roundw
            case rel => exact ⟨c + 1, by omega, by go_num, O5.out, A4.out⟩
            case measure => simp [intOf]; omega
        · have ec : c = vs.length := by omega
          have OE : Hid (wr.ownsRow w.heap.size 3 1 (.slice (some ⟨g, 0, none⟩) vs.length vs.length) (vs.map (tellV k)).length ((vs.map (tellV k)).flatMap encI)) := by
            have := OW.out
            rw [ec, anP_all] at this
            rw [List.length_map]
            exact own_lower this (by omega)
          have BE : Hid (Below w.heap.size w wr) := (HK.out _ AB.out).2.2
          have HP : Hid (NumP w R (.returned (.tuple #[.slice (some ⟨g, 0, none⟩) vs.length vs.length, .int .i64 0])) wr) := by
            show NumP _ _ _ _
            rw [HRR.out]
            exact ⟨_, rfl, OE.out, BE.out⟩
          clear ec
          go_wp2_with fail
          exact bodyPost_ret (v := .tuple #[.slice (some ⟨g, 0, none⟩) vs.length vs.length, .int .i64 0]) (by simp [results, Try.results20, go_sem]) rfl HP.out
  · have HRE : Hid (R = (se, [])) := HNE.out h0
    have t0 : (se != 0) = true := by simpa using h0
    clear h0 HNE HWT HYE HSZ
    go_enter Try.func20, Try.ntmps20
    go_upto_region 1 with fail
    rw [← hW0]
    clear hW0
    go_wp2_with fail
    refine (CS0.out _ A0.out).mono ?_
    rintro e w1 ⟨rfl, hb1⟩
    obtain ⟨_, _, b1⟩ := HK.out _ hb1
    have HP : Hid (NumP w R (.returned (.tuple #[.slice none 0 0, .int .i64 se])) w1) := by
      show NumP _ _ _ _
      rw [HRE.out]
      exact NumP.no b1
    clear hb1 q0 q1 q2 q3 c0 c1 c2 c3 c4 c5 CS0 b1
    go_wp2_with fail
    exact bodyPost_ret (v := .tuple #[.slice none 0 0, .int .i64 se]) (by simp [results, Try.results20, go_sem]) rfl HP.out
end Go.Proofs.Ytooaigcjpkhdhaa

namespace Go.Proofs.Ytooaigcjpkhdhaa
set_option maxRecDepth 100000
open Go.ChangeShapes Go.WideShapes Go.ChangeAt Go.RowKit

/-- What the document's own test says of an edge. -/
theorem out_in (n : Int) (e : Ed) : outE n e = (!inB e.1 0 (n - 1) || !inB e.2.1 0 (n - 1) || !inB e.2.2 0 1099511627776) := by
  unfold outE inB
  have h1 : decide (e.1 ≤ n - 1) = decide (e.1 < n) := by congr 1; exact propext ⟨fun _ => by omega, fun _ => by omega⟩
  have h2 : decide (e.2.1 ≤ n - 1) = decide (e.2.1 < n) := by congr 1; exact propext ⟨fun _ => by omega, fun _ => by omega⟩
  rw [h1, h2, Bool.or_assoc, Bool.or_assoc, Bool.or_assoc]
  congr 2
  by_cases h3 : e.2.2 < 0
  · have h4 : ¬ 0 ≤ e.2.2 := by omega
    simp [h3, h4]
  · have h4 : 0 ≤ e.2.2 := by omega
    by_cases h5 : 1099511627776 < e.2.2
    · have h6 : ¬ e.2.2 ≤ 1099511627776 := by omega
      simp [h3, h4, h5, h6]
    · have h6 : e.2.2 ≤ 1099511627776 := by omega
      simp [h3, h4, h5, h6]

set_option maxHeartbeats 2000000 in
set_option maxRecDepth 100000 in
theorem fault_walk (v : Value) (es : List Ed) (n : Int) (w : World) (h : EdR w v es) :
    Calls Try.prog 31 #[.agg #[.int .i64 n, v]] w fun e w' => e = .returned (.int .i64 (faultE n es)) ∧ Below w.heap.size w w' := by
  have HR : Hid (EdR w v es) := h
  obtain ⟨a, cap, rfl, hc, hm, _, _⟩ := h
  unfold maxLen at hm
  by_cases hn : 0 ≤ n ∧ n ≤ 200
  · have i0 := in_yes hn
    by_cases h2 : 600 < es.length
    · rw [fault_size (by omega)]
      have h2' : (600 : Int) < (es.length : Int) := by omega
      go_enter Try.func31, Try.ntmps31
      go_wp2_with (go_at_call 32; refine (in_any _ _ _ _).mono ?_; rw [i0]; rintro e w1 ⟨rfl, rfl⟩)
      go_ret
      exact ⟨rfl, below_alloc _ _⟩
    · have h2' : ¬ (600 : Int) < (es.length : Int) := by omega
      have HF : Hid (∀ b : Bool, es.any (outE n) = b → faultE n es = if b then 2 else 0) := fun b hb => fault_any (by omega) b hb
      generalize faultE n es = fe at *
      have hw1 : IntKind.i64.wrap (n - 1) = n - 1 := wrap_id64 (by omega) (by omega)
      go_enter Try.func31, Try.ntmps31
      go_wp2_with (go_at_call 32; refine (in_any _ _ _ _).mono ?_; rw [i0]; rintro e w1 ⟨rfl, rfl⟩)
      go_loopw [3] (fun i wr => ∃ k : Nat, k ≤ es.length ∧ i = .int .i64 k ∧ (es.take k).any (outE n) = false ∧ Below (w.heap.size + 1) (w.alloc (.cells #[.int .i64 n, .slice a es.length cap] 24)) wr) (fun i _ => es.length - (intOf i).toNat)
      case atStart => exact ⟨0, by omega, rfl, rfl, Below.refl _ _⟩
      case round =>
        obtain ⟨k, hk, rfl, hno, hbel⟩ := hrel
        have HNO : Hid ((es.take k).any (outE n) = false) := hno
        obtain ⟨b0, b1⟩ := gbox_cells hbel
        have HB : Hid (Below w.heap.size w wr) := box_below hbel
        have HB' : Hid (Below (w.heap.size + 1) (w.alloc (.cells #[.int .i64 n, .slice a es.length cap] 24)) wr) := hbel
        have hsr : w.heap.size + 1 ≤ wr.heap.size := by have := hbel.size; simpa using this
        clear hno hbel
        by_cases hlt : k < es.length
        · obtain ⟨b, off, cap', e1, _, _, lt, hv⟩ := EdR.at (HR.out.below HB.out (Nat.le_refl _)) (by omega)
          injection e1 with e1 _ e3
          subst e1 e3
          obtain ⟨x, hx⟩ := getE hlt
          obtain ⟨c1, c2, c3⟩ := hv k x hx
          have HX : Hid (es[k]? = some x) := hx
          have HO := out_in n x
          clear hv hx
          obtain ⟨xf, xt, xc⟩ := x
          simp only at c1 c2 c3 HO
          have q0 : ∀ X, (wr.alloc X).cell? ⟨w.heap.size, 0, none⟩ = some (.int .i64 n) := fun X => ((below_alloc wr X).cell (p := ⟨w.heap.size, 0, none⟩) (show w.heap.size < wr.heap.size by omega)).trans b0
          cases j1 : inB xf 0 (n - 1)
          · have HA : Hid (es.any (outE n) = true) := any_hit HX.out (by rw [HO, j1]; rfl)
            go_wp2_with (go_at_call 32; refine (in_any _ _ _ _).mono ?_; rw [j1]; rintro e w1 ⟨rfl, rfl⟩)
            go_ret
            exact ⟨by rw [HF.out _ HA.out]; rfl, HB.out.trans ((below_alloc _ _).mono (by omega))⟩
          · cases j2 : inB xt 0 (n - 1)
            · have HA : Hid (es.any (outE n) = true) := any_hit HX.out (by rw [HO, j1, j2]; rfl)
              go_wp2_with (go_at_call 32; refine (in_any _ _ _ _).mono ?_; (first | rw [j1] | rw [j2]); rintro e w1 ⟨rfl, rfl⟩)
              go_ret
              exact ⟨by rw [HF.out _ HA.out]; rfl, HB.out.trans ((below_alloc _ _).mono (by omega))⟩
            · cases j3 : inB xc 0 1099511627776
              · have HA : Hid (es.any (outE n) = true) := any_hit HX.out (by rw [HO, j1, j2, j3]; rfl)
                go_wp2_with (go_at_call 32; refine (in_any _ _ _ _).mono ?_; (first | rw [j1] | rw [j2] | rw [j3]); rintro e w1 ⟨rfl, rfl⟩)
                go_ret
                exact ⟨by rw [HF.out _ HA.out]; rfl, HB.out.trans ((below_alloc _ _).mono (by omega))⟩
              · have HN2 : Hid ((es.take (k + 1)).any (outE n) = false) := any_step HX.out HNO.out (by rw [HO, j1, j2, j3]; rfl)
                go_wp2_with (go_at_call 32; refine (in_any _ _ _ _).mono ?_; (first | rw [j1] | rw [j2] | rw [j3]); rintro e w1 ⟨rfl, rfl⟩)
                go_roundw
                case rel => exact ⟨k + 1, by omega, by go_num, HN2.out, HB'.out.trans ((below_alloc _ _).mono (by omega))⟩
                case measure => simp [intOf]; omega
        · have ek : k = es.length := by omega
          have HA : Hid (es.any (outE n) = false) := any_miss (by rw [← ek]; exact HNO.out)
          clear ek
          go_wp2_with fail
          go_ret
          exact ⟨by rw [HF.out _ HA.out]; rfl, HB.out⟩
  · have i0 := in_no hn
    rw [fault_size (by omega)]
    go_enter Try.func31, Try.ntmps31
    go_wp2_with (go_at_call 32; refine (in_any _ _ _ _).mono ?_; rw [i0]; rintro e w1 ⟨rfl, rfl⟩)
    go_ret
    exact ⟨rfl, below_alloc _ _⟩
end Go.Proofs.Ytooaigcjpkhdhaa

namespace Go.Proofs.Ytooaigcjpkhdhaa
set_option maxRecDepth 100000
open Go.ChangeShapes Go.WideShapes Go.ChangeAt Go.RowKit

set_option maxHeartbeats 1000000 in
set_option maxRecDepth 100000 in
theorem jobFault_any (v : Value) (es : List Ed) (n k s : Int) (w : World) (h : EdR w v es) :
    Calls Try.prog 11 #[.agg #[.int .i64 n, v, .int .i64 k, .int .i64 s]] w fun e w' => e = .returned (.int .i64 (jobE n es k s)) ∧ Below w.heap.size w w' := by
  have HR : Hid (EdR w v es) := h
  obtain ⟨a, cap, rfl, _, _, _, _⟩ := h
  have HCK : Hid (∀ X, EdR X (.slice a es.length cap) es → Calls Try.prog 31 #[.agg #[.int .i64 n, .slice a es.length cap]] X fun e w' => e = .returned (.int .i64 (faultE n es)) ∧ Below X.heap.size X w') := fun X hX => fault_walk _ es n X hX
  obtain ⟨W0, hW0⟩ : ∃ W0, W0 = w.alloc (.cells #[.int .i64 n, .slice a es.length cap, .int .i64 k, .int .i64 s] 26) := ⟨_, rfl⟩
  have Q0 : BX 26 W0 w.heap.size #[.int .i64 n, .slice a es.length cap, .int .i64 k, .int .i64 s] := by rw [hW0]; exact BX.new _ _ _
  have BH : Hid (Below w.heap.size w W0) := by show Below _ _ _; rw [hW0]; exact below_alloc _ _
  have s1 : w.heap.size + 1 ≤ W0.heap.size := by rw [hW0]; simp
  have HK : Hid (∀ X, Below W0.heap.size W0 X → BX 26 X w.heap.size #[.int .i64 n, .slice a es.length cap, .int .i64 k, .int .i64 s] ∧ Below w.heap.size w X) := fun X hX => ⟨Q0.below hX (by omega), BH.out.trans (hX.mono (by omega))⟩
  have R0 : Hid (EdR W0 (.slice a es.length cap) es) := HR.out.below BH.out (Nat.le_refl _)
  obtain ⟨q0, q1, q2, q3⟩ := Q0.all4
  clear Q0
  by_cases hf : faultE n es = 0
  · obtain ⟨hn0, hn1, _, _⟩ := fault_ok hf
    rw [hf] at HCK
    have CK : Hid (∀ X, Calls Try.prog 32 #[.int .i64 k, .int .i64 1, .int .i64 3] X fun e w' => e = .returned (.bool (inB k 1 3)) ∧ w' = X) := fun X => in_any k 1 3 X
    have CS : Hid (∀ X, Calls Try.prog 32 #[.int .i64 s, .int .i64 0, .int .i64 (n - 1)] X fun e w' => e = .returned (.bool (inB s 0 (n - 1))) ∧ w' = X) := fun X => in_any s 0 (n - 1) X
    have wn : IntKind.i64.wrap (n - 1) = n - 1 := wrap_id64 (by omega) (by omega)
    by_cases hk : 1 ≤ k ∧ k ≤ 3
    · rw [show inB k 1 3 = true from inB_iff.2 hk] at CK
      by_cases h1 : k = 1
      · by_cases hs : 0 ≤ s ∧ s < n
        · rw [show inB s 0 (n - 1) = true from inB_iff.2 (by omega)] at CS
          have HE : Hid (jobE n es k s = 0) := jobE_ok hf hk fun _ => hs
          generalize jobE n es k s = je at *
          have t1 : (k == 1) = true := by simpa using h1
          clear hf hs hk h1
          go_enter Try.func11, Try.ntmps11
          go_upto_region 1 with fail
          rw [← hW0]
          clear hW0
          go_wp2_with fail
          refine (HCK.out _ R0.out).mono ?_
          rintro e w1 ⟨rfl, hb1⟩
          obtain ⟨Q1, b1⟩ := HK.out _ hb1
          have B1 : Hid (Below w.heap.size w w1) := b1
          clear q0 q1 q2 q3 HCK
          obtain ⟨q0, q1, q2, q3⟩ := Q1.all4
          clear hb1 Q1 b1
          go_wp2_with fail
          refine (CK.out _).mono ?_
          rintro e w2 ⟨rfl, hw⟩
          replace hw := hw.symm
          subst hw
          go_wp2_with fail
          refine (CS.out _).mono ?_
          rintro e w2 ⟨rfl, hw⟩
          replace hw := hw.symm
          subst hw
          go_wp2_with fail
          go_ret
          exact ⟨by rw [HE.out]; rfl, B1.out⟩
        · rw [show inB s 0 (n - 1) = false from by rw [Bool.eq_false_iff]; intro g; exact hs (by have := inB_iff.1 g; omega)] at CS
          have HE : Hid (jobE n es k s = 2) := jobE_src hf h1 hs
          generalize jobE n es k s = je at *
          have t1 : (k == 1) = true := by simpa using h1
          clear hf hs hk h1
          go_enter Try.func11, Try.ntmps11
          go_upto_region 1 with fail
          rw [← hW0]
          clear hW0
          go_wp2_with fail
          refine (HCK.out _ R0.out).mono ?_
          rintro e w1 ⟨rfl, hb1⟩
          obtain ⟨Q1, b1⟩ := HK.out _ hb1
          have B1 : Hid (Below w.heap.size w w1) := b1
          clear q0 q1 q2 q3 HCK
          obtain ⟨q0, q1, q2, q3⟩ := Q1.all4
          clear hb1 Q1 b1
          go_wp2_with fail
          refine (CK.out _).mono ?_
          rintro e w2 ⟨rfl, hw⟩
          replace hw := hw.symm
          subst hw
          go_wp2_with fail
          refine (CS.out _).mono ?_
          rintro e w2 ⟨rfl, hw⟩
          replace hw := hw.symm
          subst hw
          go_wp2_with fail
          go_ret
          exact ⟨by rw [HE.out]; rfl, B1.out⟩
      · have HE : Hid (jobE n es k s = 0) := jobE_ok hf hk fun g => absurd g h1
        generalize jobE n es k s = je at *
        have t1 : (k == 1) = false := by simpa using h1
        clear hf hk h1
        go_enter Try.func11, Try.ntmps11
        go_upto_region 1 with fail
        rw [← hW0]
        clear hW0
        go_wp2_with fail
        refine (HCK.out _ R0.out).mono ?_
        rintro e w1 ⟨rfl, hb1⟩
        obtain ⟨Q1, b1⟩ := HK.out _ hb1
        have B1 : Hid (Below w.heap.size w w1) := b1
        clear q0 q1 q2 q3 HCK
        obtain ⟨q0, q1, q2, q3⟩ := Q1.all4
        clear hb1 Q1 b1
        go_wp2_with fail
        refine (CK.out _).mono ?_
        rintro e w2 ⟨rfl, hw⟩
        replace hw := hw.symm
        subst hw
        go_wp2_with fail
        go_ret
        exact ⟨by rw [HE.out]; rfl, B1.out⟩
    · rw [show inB k 1 3 = false from by rw [Bool.eq_false_iff]; intro g; exact hk (inB_iff.1 g)] at CK
      have HE : Hid (jobE n es k s = 3) := jobE_kind hf hk
      generalize jobE n es k s = je at *
      clear hf hk
      go_enter Try.func11, Try.ntmps11
      go_upto_region 1 with fail
      rw [← hW0]
      clear hW0
      go_wp2_with fail
      refine (HCK.out _ R0.out).mono ?_
      rintro e w1 ⟨rfl, hb1⟩
      obtain ⟨Q1, b1⟩ := HK.out _ hb1
      have B1 : Hid (Below w.heap.size w w1) := b1
      clear q0 q1 q2 q3 HCK
      obtain ⟨q0, q1, q2, q3⟩ := Q1.all4
      clear hb1 Q1 b1
      go_wp2_with fail
      refine (CK.out _).mono ?_
      rintro e w2 ⟨rfl, hw⟩
      replace hw := hw.symm
      subst hw
      go_wp2_with fail
      go_ret
      exact ⟨by rw [HE.out]; rfl, B1.out⟩
  · have HE : Hid (jobE n es k s = faultE n es) := jobE_bad hf
    generalize jobE n es k s = je at *
    generalize faultE n es = fe at *
    have t0 : (fe != 0) = true := by simpa using hf
    clear hf
    go_enter Try.func11, Try.ntmps11
    go_upto_region 1 with fail
    rw [← hW0]
    clear hW0
    go_wp2_with fail
    refine (HCK.out _ R0.out).mono ?_
    rintro e w1 ⟨rfl, hb1⟩
    have B1 : Hid (Below w.heap.size w w1) := (HK.out _ hb1).2
    clear hb1 q0 q1 q2 q3 HCK
    go_wp2_with fail
    go_ret
    exact ⟨by rw [HE.out]; rfl, B1.out⟩
end Go.Proofs.Ytooaigcjpkhdhaa

namespace Go.Proofs.Ytooaigcjpkhdhaa
set_option maxRecDepth 100000
open Go.ChangeShapes Go.WideShapes Go.ChangeAt Go.RowKit Go.Sort

set_option maxHeartbeats 4000000 in
set_option maxRecDepth 100000 in
theorem answered_any (v : Value) (es : List Ed) (n k s : Int) (T : StS) (vv vm : Value) (w : World) (h : EdR w v es) (hv : MlR w vv T.vals) (hm : LiR w vm T.mail) (hml : ∀ l ∈ T.mail, l.length ≤ 140737488355328) :
    Calls Try.prog 21 #[.agg #[.int .i64 n, v, .int .i64 k, .int .i64 s], .agg #[.int .i64 T.step, .int .i64 T.phase, .bool T.fresh, .bool T.done, vv, vm]] w (NumP w (ansE n es k s T)) := by
  have HR : Hid (EdR w v es) := h
  obtain ⟨a, cap, rfl, _, _, _, _⟩ := h
  have HCK : Hid (∀ X, EdR X (.slice a es.length cap) es → Calls Try.prog 11 #[.agg #[.int .i64 n, .slice a es.length cap, .int .i64 k, .int .i64 s]] X fun e w' => e = .returned (.int .i64 (jobE n es k s)) ∧ Below X.heap.size X w') := fun X hX => jobFault_any _ es n k s X hX
  have HV : Hid (MlR w vv T.vals) := hv
  have HM : Hid (LiR w vm T.mail) := hm
  obtain ⟨va, vc, rfl, hvc, hvm, _, _⟩ := hv
  obtain ⟨ma, mc, rfl, hmc, hmm, _⟩ := hm
  unfold maxLen at hvm hmm
  have HSM : Hid (∀ X, jobE n es k s = 0 → MlR X (.slice va T.vals.length vc) T.vals → LiR X (.slice ma T.mail.length mc) T.mail → Calls Try.prog 38 #[.agg #[.int .i64 n, .slice a es.length cap, .int .i64 k, .int .i64 s], .agg #[.int .i64 T.step, .int .i64 T.phase, .bool T.fresh, .bool T.done, .slice va T.vals.length vc, .slice ma T.mail.length mc]] X fun e w' => e = .returned (.bool (mayR n.toNat k T)) ∧ Below X.heap.size X w') := fun X hj h1 h2 => by
    obtain ⟨hf, _, _⟩ := jobE_zero hj
    obtain ⟨hn0, hn1, _, _⟩ := fault_ok hf
    obtain ⟨m, rfl⟩ : ∃ m : Nat, n = m := ⟨n.toNat, by omega⟩
    rw [Int.toNat_natCast]
    exact stateMay_any a es.length cap m k s T _ _ X h1 h2 (by omega) hml
  have HWL : Hid (jobE n es k s = 0 → mayR n.toNat k T = true → T.vals.length ≤ 200) := fun hj hm => by
    obtain ⟨hf, _, _⟩ := jobE_zero hj
    obtain ⟨hn0, hn1, _, _⟩ := fault_ok hf
    by_cases g : T.vals.length = n.toNat ∧ T.mail.length = n.toNat
    · omega
    · rw [mayR_len g] at hm; cases hm
  have HE1 : Hid (jobE n es k s ≠ 0 → ansE n es k s T = (jobE n es k s, [])) := fun h => by unfold ansE; rw [if_pos h]
  have HE2 : Hid (jobE n es k s = 0 → mayR n.toNat k T = false → ansE n es k s T = (9, [])) := fun h h2 => by unfold ansE; rw [if_neg (by simp [h]), if_pos h2]
  have HE3 : Hid (jobE n es k s = 0 → mayR n.toNat k T = true → T.done = false → ansE n es k s T = (12, [])) := fun h h2 h3 => by unfold ansE; rw [if_neg (by simp [h]), if_neg (by simp [h2]), if_pos h3]
  have HE4 : Hid (jobE n es k s = 0 → mayR n.toNat k T = true → T.done = true → ansE n es k s T = (0, T.vals.map (tellV k))) := fun h h2 h3 => by unfold ansE; rw [if_neg (by simp [h]), if_neg (by simp [h2]), if_neg (by simp [h3])]
  generalize ansE n es k s T = R at *
  generalize mayR n.toNat k T = mr at *
  clear hml
  obtain ⟨step, phase, fr, dn, vs, ms⟩ := T
  simp only at HV HM hvc hvm hmc hmm HSM HWL HE1 HE2 HE3 HE4 ⊢
  obtain ⟨W0, hW0⟩ : ∃ W0, W0 = (w.alloc (.cells #[.int .i64 n, .slice a es.length cap, .int .i64 k, .int .i64 s] 26)).alloc (.cells #[.int .i64 step, .int .i64 phase, .bool fr, .bool dn, .slice va vs.length vc, .slice ma ms.length mc] 34) := ⟨_, rfl⟩
  obtain ⟨Q0, T0, B0, s1, s2⟩ := boxes2 w #[.int .i64 n, .slice a es.length cap, .int .i64 k, .int .i64 s] #[.int .i64 step, .int .i64 phase, .bool fr, .bool dn, .slice va vs.length vc, .slice ma ms.length mc] 26 34 W0 hW0
  have BH : Hid (Below w.heap.size w W0) := B0
  have HK : Hid (∀ X, Below W0.heap.size W0 X → BX 26 X w.heap.size #[.int .i64 n, .slice a es.length cap, .int .i64 k, .int .i64 s] ∧ BX 34 X (w.heap.size + 1) #[.int .i64 step, .int .i64 phase, .bool fr, .bool dn, .slice va vs.length vc, .slice ma ms.length mc] ∧ Below w.heap.size w X) := fun X hX => ⟨Q0.below hX (by omega), T0.below hX (by omega), BH.out.trans (hX.mono (by omega))⟩
  have R0 : Hid (EdR W0 (.slice a es.length cap) es) := HR.out.below BH.out (Nat.le_refl _)
  have HVX : Hid (∀ X, Below W0.heap.size W0 X → MlR X (.slice va vs.length vc) vs ∧ LiR X (.slice ma ms.length mc) ms) := fun X hX => ⟨HV.out.below (HK.out _ hX).2.2 (Nat.le_refl _), HM.out.below (HK.out _ hX).2.2 (Nat.le_refl _)⟩
  obtain ⟨q0, q1, q2, q3⟩ := Q0.all4
  clear Q0 T0 B0
  by_cases hj : jobE n es k s = 0
  · replace HSM : Hid (∀ X, Below W0.heap.size W0 X → Calls Try.prog 38 #[.agg #[.int .i64 n, .slice a es.length cap, .int .i64 k, .int .i64 s], .agg #[.int .i64 step, .int .i64 phase, .bool fr, .bool dn, .slice va vs.length vc, .slice ma ms.length mc]] X fun e w' => e = .returned (.bool mr) ∧ Below X.heap.size X w') := fun X hX => HSM.out X hj (HVX.out X hX).1 (HVX.out X hX).2
    replace HE2 : Hid (mr = false → R = (9, [])) := HE2.out hj
    replace HE3 : Hid (mr = true → dn = false → R = (12, [])) := HE3.out hj
    replace HE4 : Hid (mr = true → dn = true → R = (0, vs.map (tellV k))) := HE4.out hj
    replace HWL : Hid (mr = true → vs.length ≤ 200) := HWL.out hj
    rw [hj] at HCK
    clear hj HE1
    go_enter Try.func21, Try.ntmps21
    go_upto_region 1 with fail
    rw [← hW0]
    clear hW0
    go_wp2_with fail
    refine (HCK.out _ R0.out).mono ?_
    rintro e w1 ⟨rfl, hb1⟩
    have A1 : Hid (Below W0.heap.size W0 w1) := hb1
    clear q0 q1 q2 q3 HCK hb1
    obtain ⟨Q1, T1, _⟩ := HK.out _ A1.out
    obtain ⟨q0, q1, q2, q3⟩ := Q1.all4
    obtain ⟨⟨c0, c1, c2, c3, c4, c5⟩, _⟩ := T1.all6
    have hs1 := A1.out.size
    clear Q1 T1
    go_wp2_with fail
    refine (HSM.out _ A1.out).mono ?_
    rintro e w2 ⟨rfl, hb2⟩
    have A2 : Hid (Below W0.heap.size W0 w2) := A1.out.trans (hb2.mono hs1)
    clear q0 q1 q2 q3 c0 c1 c2 c3 c4 c5 hb2 hs1 HSM A1
    obtain ⟨Q2, T2, hbw⟩ := HK.out _ A2.out
    obtain ⟨q0, q1, q2, q3⟩ := Q2.all4
    obtain ⟨⟨c0, c1, c2, c3, c4, c5⟩, _⟩ := T2.all6
    have BW : Hid (Below w.heap.size w w2) := hbw
    clear Q2 T2 hbw
    cases hmr : mr
    · have HP : Hid (NumP w R (.returned (.tuple #[.slice none 0 0, .int .i64 9])) w2) := by
        show NumP _ _ _ _
        rw [HE2.out hmr]
        exact NumP.no BW.out
      clear hmr
      go_wp2_with fail
      exact bodyPost_ret (v := .tuple #[.slice none 0 0, .int .i64 9]) (by simp [results, Try.results21, go_sem]) rfl HP.out
    · have hvl := HWL.out hmr
      cases hdn : dn
      · have HP : Hid (NumP w R (.returned (.tuple #[.slice none 0 0, .int .i64 12])) w2) := by
          show NumP _ _ _ _
          rw [HE3.out hmr hdn]
          exact NumP.no BW.out
        subst hdn
        clear hmr
        go_wp2_with fail
        exact bodyPost_ret (v := .tuple #[.slice none 0 0, .int .i64 12]) (by simp [results, Try.results21, go_sem]) rfl HP.out
      · have HRR : Hid (R = (0, vs.map (tellV k))) := HE4.out hmr hdn
        subst hdn
        clear hmr HE2 HE3 HE4 HWL
        go_wp2_with fail
        clear q0 q1 q2 q3 c0 c1 c2 c3 c4 c5
        go_loopw [7, 8] (fun u i wr => ∃ c : Nat, c ≤ vs.length ∧ i = .int .i64 c ∧ wr.ownsRow W0.heap.size 3 1 u ((vs.map (tellV k)).take c).length (((vs.map (tellV k)).take c).flatMap encI) ∧ Below W0.heap.size W0 wr) (fun _ i _ => vs.length - (intOf i).toNat)
        case atStart => exact ⟨0, by omega, rfl, World.ownsRow_nil _ _ _ _, A2.out⟩
        case round =>
          obtain ⟨c, hc, rfl, hown, hbel⟩ := hrel
          have OW : Hid (wr.ownsRow W0.heap.size 3 1 u7 ((vs.map (tellV k)).take c).length (((vs.map (tellV k)).take c).flatMap encI)) := hown
          have AB : Hid (Below W0.heap.size W0 wr) := hbel
          have hsr := hbel.size
          obtain ⟨ua, un, uc, rfl⟩ : ∃ a n c, u7 = .slice a n c := by
            rcases own_shapeK hown with ⟨e, _⟩ | ⟨g', c', e, _⟩
            · exact ⟨_, _, _, e⟩
            · exact ⟨_, _, _, e⟩
          obtain ⟨Q2, T2, hbw⟩ := HK.out _ AB.out
          obtain ⟨q0, q1, q2, q3⟩ := Q2.all4
          obtain ⟨⟨c0, c1, c2, c3, c4, c5⟩, _⟩ := T2.all6
          have BE : Hid (Below w.heap.size w wr) := hbw
          clear hown hbel Q2 T2 hbw
          by_cases hlt : c < vs.length
          · obtain ⟨b1, o1, cap1, e1, lt1, hv1⟩ := MlR.read (HVX.out _ AB.out).1 (by omega)
            injection e1 with e1 _ e3
            subst e1 e3
            obtain ⟨x, hx⟩ : ∃ x, vs[c]? = some x := ⟨_, List.getElem?_eq_getElem hlt⟩
            obtain ⟨d0, d1⟩ := hv1 c x hx
            have HNX : Hid ((vs.map (tellV k)).take (c + 1) = (vs.map (tellV k)).take c ++ [tellV k x]) := take_snoc (by rw [List.getElem?_map, hx]; rfl)
            have hlk := take_most (vs.map (tellV k)) c
            have p0 : (0 : Int) ≤ (c : Int) := by omega
            have p1 : (c : Int) < (vs.length : Int) := by omega
            clear hv1 hx
            generalize (vs.map (tellV k)).take c = f at *
            by_cases hk3 : k = 3
            · have ht : tellV k x = x.2 := by unfold tellV; rw [if_pos hk3]
              rw [ht] at HNX
              have t3 : (k == 3) = true := by simpa using hk3
              clear ht hk3
              go_wp2_with (at_builtin; refine wpList_append_newK kI rfl _ _ rfl W0.heap.size _ f rfl (OW.out.alloc _) _ x.2 rfl #[.int .i64 x.2] rfl (0, 0) (heap_alloc_new _ _) (by simp only [kI]; omega) (by unfold maxLen; omega) (by simp; omega) ?_)
              intro g1 k1 w3 ho2 hb2 _
              have O2 : Hid (w3.ownsRow W0.heap.size 3 1 (.slice (some ⟨g1, 0, none⟩) (f.length + 1) k1) ((vs.map (tellV k)).take (c + 1)).length (((vs.map (tellV k)).take (c + 1)).flatMap encI)) := by
                show World.ownsRow _ _ _ _ _ _ _
                rw [HNX.out, flat_snoc, List.length_append]; exact ho2
              have B2 : Hid (Below W0.heap.size W0 w3) := (AB.out.alloc hsr _).trans hb2
              clear ho2 hb2
              go_wp2_with fail
              go_roundw
              case rel => exact ⟨c + 1, by omega, by go_num, O2.out, B2.out⟩
              case measure => simp [intOf]; omega
            · have ht : tellV k x = x.1 := by unfold tellV; rw [if_neg hk3]
              rw [ht] at HNX
              have t3 : (k == 3) = false := by simpa using hk3
              clear ht
              go_wp2_with (at_builtin; refine wpList_append_newK kI rfl _ _ rfl W0.heap.size _ f rfl (OW.out.alloc _) _ x.1 rfl #[.int .i64 x.1] rfl (0, 0) (heap_alloc_new _ _) (by simp only [kI]; omega) (by unfold maxLen; omega) (by simp; omega) ?_)
              intro g1 k1 w3 ho2 hb2 _
              have O2 : Hid (w3.ownsRow W0.heap.size 3 1 (.slice (some ⟨g1, 0, none⟩) (f.length + 1) k1) ((vs.map (tellV k)).take (c + 1)).length (((vs.map (tellV k)).take (c + 1)).flatMap encI)) := by
                show World.ownsRow _ _ _ _ _ _ _
                rw [HNX.out, flat_snoc, List.length_append]; exact ho2
              have B2 : Hid (Below W0.heap.size W0 w3) := (AB.out.alloc hsr _).trans hb2
              clear ho2 hb2
              go_wp2_with fail
              go_roundw
              case rel => exact ⟨c + 1, by omega, by go_num, O2.out, B2.out⟩
              case measure => simp [intOf]; omega
          · have ec : c = vs.length := by omega
            subst ec
            have OE : Hid (wr.ownsRow w.heap.size 3 1 (.slice ua un uc) (vs.map (tellV k)).length ((vs.map (tellV k)).flatMap encI)) := by
              have := OW.out
              rw [List.take_of_length_le (by simp)] at this
              exact own_lower this (by omega)
            have HP : Hid (NumP w R (.returned (.tuple #[.slice ua un uc, .int .i64 0])) wr) := by
              show NumP _ _ _ _
              rw [HRR.out]
              exact ⟨_, rfl, OE.out, BE.out⟩
            clear hc hlt
            go_wp2_with fail
            exact bodyPost_ret (v := .tuple #[.slice ua un uc, .int .i64 0]) (by simp [results, Try.results21, go_sem]) rfl HP.out
  · have HP : Hid (∀ w', Below w.heap.size w w' → NumP w R (.returned (.tuple #[.slice none 0 0, .int .i64 (jobE n es k s)])) w') := fun w' hb => by
      rw [HE1.out hj]
      exact NumP.no hb
    generalize jobE n es k s = je at *
    have t0 : (je != 0) = true := by simpa using hj
    clear hj HE1 HE2 HE3 HE4 HSM HWL
    go_enter Try.func21, Try.ntmps21
    go_upto_region 1 with fail
    rw [← hW0]
    clear hW0
    go_wp2_with fail
    refine (HCK.out _ R0.out).mono ?_
    rintro e w1 ⟨rfl, hb1⟩
    have BW : Hid (Below w.heap.size w w1) := (HK.out _ hb1).2.2
    clear hb1 q0 q1 q2 q3 HCK
    go_wp2_with fail
    exact bodyPost_ret (v := .tuple #[.slice none 0 0, .int .i64 je]) (by simp [results, Try.results21, go_sem]) rfl (HP.out _ BW.out)
end Go.Proofs.Ytooaigcjpkhdhaa

namespace Go.Proofs.Ytooaigcjpkhdhaa
set_option maxRecDepth 100000
open Go.ChangeShapes Go.WideShapes Go.ChangeAt Go.RowKit

set_option maxHeartbeats 1000000 in
set_option maxRecDepth 100000 in
theorem sameInts_yes (va vb : Value) (es : List Int) (w : World) (ha : InR w va es) (hb : InR w vb es) :
    Calls Try.prog 22 #[va, vb] w fun e w' => e = .returned (.bool true) ∧ Below w.heap.size w w' := by
  have HA : Hid (InR w va es) := ha
  have HB : Hid (InR w vb es) := hb
  obtain ⟨a, ca, rfl, hca, hma, _, _⟩ := ha
  obtain ⟨b, cb, rfl, hcb, hmb, _, _⟩ := hb
  unfold maxLen at hma hmb
  have hll : ((es.length : Int) != (es.length : Int)) = false := by simp
  go_enter Try.func22, Try.ntmps22
  go_wp2_with fail
  go_loopw [5] (fun i wr => ∃ k : Nat, k ≤ es.length ∧ i = .int .i64 k ∧ Below w.heap.size w wr) (fun i _ => es.length - (intOf i).toNat)
  case atStart => exact ⟨0, by omega, rfl, Below.refl _ _⟩
  case round =>
    obtain ⟨k, hk, rfl, hbel⟩ := hrel
    have HBL : Hid (Below w.heap.size w wr) := hbel
    clear hbel
    by_cases hlt : k < es.length
    · obtain ⟨xa, oa, cap', e1, _, _, la, hva⟩ := InR.at (HA.out.below HBL.out (Nat.le_refl _)) (by omega)
      injection e1 with e1 _ e3
      subst e1 e3
      obtain ⟨xb, ob, cap', e1, _, _, lb, hvb⟩ := InR.at (HB.out.below HBL.out (Nat.le_refl _)) (by omega)
      injection e1 with e1 _ e3
      subst e1 e3
      obtain ⟨x, hx⟩ := getX hlt
      have p0 : (0 : Int) ≤ (k : Int) := by omega
      have p1 : (k : Int) < (es.length : Int) := by omega
      have c1 := hva k x hx
      have d1 := hvb k x hx
      have hxx : (x != x) = false := by simp
      clear hva hvb hx
      go_wp2_with fail
      go_quiet (fail)
      go_wp2_with fail
      go_roundw
      case rel => exact ⟨k + 1, by omega, by go_num, below_drewN HBL.out _⟩
      case measure => simp [intOf]; omega
    · go_wp2_with fail
      go_ret
      exact ⟨rfl, HBL.out⟩
end Go.Proofs.Ytooaigcjpkhdhaa

namespace Go.Proofs.Ytooaigcjpkhdhaa
set_option maxRecDepth 100000
open Go.ChangeShapes Go.WideShapes Go.ChangeAt Go.RowKit

set_option maxHeartbeats 1000000 in
set_option maxRecDepth 100000 in
theorem sameVals_yes (va vb : Value) (vs : List Ml) (w : World) (ha : MlR w va vs) (hb : MlR w vb vs) :
    Calls Try.prog 34 #[va, vb] w fun e w' => e = .returned (.bool true) ∧ Below w.heap.size w w' := by
  have HA : Hid (MlR w va vs) := ha
  have HB : Hid (MlR w vb vs) := hb
  obtain ⟨a, ca, rfl, hca, hma, _, _⟩ := ha
  obtain ⟨b, cb, rfl, hcb, hmb, _, _⟩ := hb
  unfold maxLen at hma hmb
  have hll : ((vs.length : Int) != (vs.length : Int)) = false := by simp
  go_enter Try.func34, Try.ntmps34
  go_wp2_with fail
  go_loopw [5] (fun i wr => ∃ k : Nat, k ≤ vs.length ∧ i = .int .i64 k ∧ Below w.heap.size w wr) (fun i _ => vs.length - (intOf i).toNat)
  case atStart => exact ⟨0, by omega, rfl, Below.refl _ _⟩
  case round =>
    obtain ⟨k, hk, rfl, hbel⟩ := hrel
    have HBL : Hid (Below w.heap.size w wr) := hbel
    clear hbel
    by_cases hlt : k < vs.length
    · obtain ⟨xa, oa, cap', e1, la, hva⟩ := MlR.read (HA.out.below HBL.out (Nat.le_refl _)) (by omega)
      injection e1 with e1 _ e3
      subst e1 e3
      obtain ⟨xb, ob, cap', e1, lb, hvb⟩ := MlR.read (HB.out.below HBL.out (Nat.le_refl _)) (by omega)
      injection e1 with e1 _ e3
      subst e1 e3
      obtain ⟨x, hx⟩ := getX hlt
      have p0 : (0 : Int) ≤ (k : Int) := by omega
      have p1 : (k : Int) < (vs.length : Int) := by omega
      obtain ⟨c1, c2⟩ := hva k x hx
      obtain ⟨d1, d2⟩ := hvb k x hx
      obtain ⟨x1, x2⟩ := x
      simp only at c1 c2 d1 d2
      clear hva hvb hx
      go_wp2_with fail
      go_quiet (fail)
      go_wp2_with fail
      go_roundw
      case rel => exact ⟨k + 1, by omega, by go_num, below_drewN HBL.out _⟩
      case measure => simp [intOf]; omega
    · go_wp2_with fail
      go_ret
      exact ⟨rfl, HBL.out⟩

set_option maxHeartbeats 2000000 in
set_option maxRecDepth 100000 in
theorem sameState_yes (T : StS) (va vb vma vmb : Value) (w : World) (ha : MlR w va T.vals) (hb : MlR w vb T.vals) (hma : LiR w vma T.mail) (hmb : LiR w vmb T.mail) :
    Calls Try.prog 14 #[.agg #[.int .i64 T.step, .int .i64 T.phase, .bool T.fresh, .bool T.done, va, vma], .agg #[.int .i64 T.step, .int .i64 T.phase, .bool T.fresh, .bool T.done, vb, vmb]] w fun e w' => e = .returned (.bool true) ∧ Below w.heap.size w w' := by
  have HA : Hid (MlR w va T.vals) := ha
  have HB : Hid (MlR w vb T.vals) := hb
  have HMA : Hid (LiR w vma T.mail) := hma
  have HMB : Hid (LiR w vmb T.mail) := hmb
  obtain ⟨a, ca, rfl, hca, hcm, _, _⟩ := ha
  obtain ⟨b, cb, rfl, hcb, hdm, _, _⟩ := hb
  obtain ⟨ma, mca, rfl, hmca, hmcm, _⟩ := hma
  obtain ⟨mb, mcb, rfl, hmcb, hmdm, _⟩ := hmb
  unfold maxLen at hcm hdm hmcm hmdm
  obtain ⟨W0, hW0⟩ : ∃ W0, W0 = (w.alloc (.cells #[.int .i64 T.step, .int .i64 T.phase, .bool T.fresh, .bool T.done, .slice a T.vals.length ca, .slice ma T.mail.length mca] 34)).alloc (.cells #[.int .i64 T.step, .int .i64 T.phase, .bool T.fresh, .bool T.done, .slice b T.vals.length cb, .slice mb T.mail.length mcb] 34) := ⟨_, rfl⟩
  obtain ⟨Q0, T0, B0, s1, s2⟩ := boxes2 w #[.int .i64 T.step, .int .i64 T.phase, .bool T.fresh, .bool T.done, .slice a T.vals.length ca, .slice ma T.mail.length mca] #[.int .i64 T.step, .int .i64 T.phase, .bool T.fresh, .bool T.done, .slice b T.vals.length cb, .slice mb T.mail.length mcb] 34 34 W0 hW0
  have BH : Hid (Below w.heap.size w W0) := B0
  have HK : Hid (∀ X, Below W0.heap.size W0 X → BX 34 X w.heap.size #[.int .i64 T.step, .int .i64 T.phase, .bool T.fresh, .bool T.done, .slice a T.vals.length ca, .slice ma T.mail.length mca] ∧ BX 34 X (w.heap.size + 1) #[.int .i64 T.step, .int .i64 T.phase, .bool T.fresh, .bool T.done, .slice b T.vals.length cb, .slice mb T.mail.length mcb] ∧ Below w.heap.size w X) := fun X hX => ⟨Q0.below hX (by omega), T0.below hX (by omega), BH.out.trans (hX.mono (by omega))⟩
  have HVX : Hid (∀ X, Below W0.heap.size W0 X → LiR X (.slice ma T.mail.length mca) T.mail ∧ LiR X (.slice mb T.mail.length mcb) T.mail) := fun X hX => ⟨HMA.out.below (HK.out _ hX).2.2 (Nat.le_refl _), HMB.out.below (HK.out _ hX).2.2 (Nat.le_refl _)⟩
  have HVY : Hid (∀ X, Below W0.heap.size W0 X → MlR X (.slice a T.vals.length ca) T.vals ∧ MlR X (.slice b T.vals.length cb) T.vals) := fun X hX => ⟨HA.out.below (HK.out _ hX).2.2 (Nat.le_refl _), HB.out.below (HK.out _ hX).2.2 (Nat.le_refl _)⟩
  have A0 : Hid (Below W0.heap.size W0 W0) := Below.refl _ _
  obtain ⟨⟨q0, q1, q2, q3, q4, q5⟩, _⟩ := Q0.all6
  obtain ⟨⟨p0, p1, p2, p3, p4, p5⟩, _⟩ := T0.all6
  have t0 : (T.step != T.step) = false := by simp
  have t1 : (T.phase != T.phase) = false := by simp
  have t2 : (T.fresh != T.fresh) = false := by simp
  have t3 : (T.done != T.done) = false := by simp
  have t4 : ((T.vals.length : Int) != (T.vals.length : Int)) = false := by simp
  have t5 : ((T.mail.length : Int) != (T.mail.length : Int)) = false := by simp
  clear Q0 T0 B0
  have CV : Hid (∀ X, Below W0.heap.size W0 X → Calls Try.prog 34 #[.slice a T.vals.length ca, .slice b T.vals.length cb] X fun e w' => e = .returned (.bool true) ∧ Below X.heap.size X w') := fun X hX => sameVals_yes _ _ T.vals X (HVY.out X hX).1 (HVY.out X hX).2
  go_enter Try.func14, Try.ntmps14
  go_upto_region 1 with fail
  rw [← hW0]
  clear hW0
  go_wp2_with fail
  refine (CV.out _ A0.out).mono ?_
  rintro e w1 ⟨rfl, hb1⟩
  have A1 : Hid (Below W0.heap.size W0 w1) := hb1
  obtain ⟨QA, QB, _⟩ := HK.out _ hb1
  clear q0 q1 q2 q3 q4 q5 p0 p1 p2 p3 p4 p5 hb1
  obtain ⟨⟨q0, q1, q2, q3, q4, q5⟩, _⟩ := QA.all6
  obtain ⟨⟨p0, p1, p2, p3, p4, p5⟩, _⟩ := QB.all6
  clear QA QB
  go_wp2_with fail
  clear q0 q1 q2 q3 q4 q5 p0 p1 p2 p3 p4 p5
  go_loopw [5] (fun i wr => ∃ k : Nat, k ≤ T.mail.length ∧ i = .int .i64 k ∧ Below W0.heap.size W0 wr) (fun i _ => T.mail.length - (intOf i).toNat)
  case atStart => exact ⟨0, by omega, rfl, A1.out⟩
  case round =>
    obtain ⟨k, hk, rfl, hbel⟩ := hrel
    have AB : Hid (Below W0.heap.size W0 wr) := hbel
    have hsr := hbel.size
    obtain ⟨QA, QB, hbw⟩ := HK.out _ hbel
    have BW : Hid (Below w.heap.size w wr) := hbw
    obtain ⟨⟨q0, q1, q2, q3, q4, q5⟩, _⟩ := QA.all6
    obtain ⟨⟨p0, p1, p2, p3, p4, p5⟩, _⟩ := QB.all6
    clear hbel QA QB hbw
    by_cases hlt : k < T.mail.length
    · obtain ⟨xa, oa, cap', e1, lta, _, _, hva⟩ := (HVX.out _ AB.out).1.at (by omega)
      injection e1 with e1 _ e3
      subst e1 e3
      obtain ⟨xb, ob, cap', e1, ltb, _, _, hvb⟩ := (HVX.out _ AB.out).2.at (by omega)
      injection e1 with e1 _ e3
      subst e1 e3
      obtain ⟨l, hl⟩ := getX hlt
      obtain ⟨u, hu, hur⟩ := hva k l hl
      obtain ⟨v, hv, hvr⟩ := hvb k l hl
      have UR : Hid (InR wr u l ∧ InR wr v l) := ⟨hur, hvr⟩
      obtain ⟨ua, uca, rfl⟩ := hur.shape
      obtain ⟨ub, ucb, rfl⟩ := hvr.shape
      have CS : Hid (∀ X, Below wr.heap.size wr X → Calls Try.prog 22 #[.slice ua l.length uca, .slice ub l.length ucb] X fun e w' => ∃ v, e = .returned v ∧ (v = .bool true ∧ Below X.heap.size X w')) := fun X hX => (sameInts_yes _ _ l X (UR.out.1.below hX (Nat.le_refl _)) (UR.out.2.below hX (Nat.le_refl _))).mono fun e w' h => ⟨_, h.1, rfl, h.2⟩
      have KEEP : Hid (∀ V, Below wr.heap.size wr V → (V.cell? ⟨w.heap.size, 5, none⟩ = some (.slice (some ⟨xa, oa, none⟩) T.mail.length mca) ∧ V.cell? ⟨w.heap.size + 1, 5, none⟩ = some (.slice (some ⟨xb, ob, none⟩) T.mail.length mcb) ∧ V.cell? ⟨xa, oa + k, none⟩ = some (.slice ua l.length uca) ∧ V.cell? ⟨xb, ob + k, none⟩ = some (.slice ub l.length ucb))) := fun V hV => by
        obtain ⟨QA, QB, _⟩ := HK.out _ (AB.out.trans (hV.mono hsr))
        exact ⟨QA.all6.1.2.2.2.2.2, QB.all6.1.2.2.2.2.2, (hV.cell (p := ⟨xa, oa + k, none⟩) lta).trans hu, (hV.cell (p := ⟨xb, ob + k, none⟩) ltb).trans hv⟩
      have HS0 : Hid (wr.drew.cell? ⟨w.heap.size, 5, none⟩ = some (.slice (some ⟨xa, oa, none⟩) T.mail.length mca) ∧ wr.drew.cell? ⟨w.heap.size + 1, 5, none⟩ = some (.slice (some ⟨xb, ob, none⟩) T.mail.length mcb) ∧ wr.drew.cell? ⟨xa, oa + k, none⟩ = some (.slice ua l.length uca) ∧ wr.drew.cell? ⟨xb, ob + k, none⟩ = some (.slice ub l.length ucb)) := KEEP.out wr.drew (Below.refl _ _).drew
      have es : ∀ args w, (callFunc 22 args).run Try.prog w = .ok (.enter 22 args) w := enters_of Try.func22 (by kernel_rfl) rfl
      have z0 : (0 : Int) ≤ (k : Int) := by omega
      have z1 : (k : Int) < (T.mail.length : Int) := by omega
      clear hva hvb hl hu hv hur hvr
      go_upto_region 6 with fail
      clear q0 q1 q2 q3 q4 q5 p0 p1 p2 p3 p4 p5
      refine wp_region_held (S := fun V => (V.cell? ⟨w.heap.size, 5, none⟩ = some (.slice (some ⟨xa, oa, none⟩) T.mail.length mca) ∧ V.cell? ⟨w.heap.size + 1, 5, none⟩ = some (.slice (some ⟨xb, ob, none⟩) T.mail.length mcb) ∧ V.cell? ⟨xa, oa + k, none⟩ = some (.slice ua l.length uca) ∧ V.cell? ⟨xb, ob + k, none⟩ = some (.slice ub l.length ucb))) (by kernel_rfl) ?_
      simp only [List.size_toArray, List.length_cons, List.length_nil, Nat.reduceAdd]
      refine takeH (i := 0) (v := .pointer (some ⟨w.heap.size, 5, none⟩)) (d := 56) rfl rfl (by kernel_rfl) (by kernel_rfl) (by kernel_rfl) (fun _ _ _ h => h) (by rfl) (fun V hV => by obtain ⟨v1, v2, v3, v4⟩ := hV; go_simp) HS0.out ?_
      simp only [Act.put, List.setIfInBounds_toArray, List.set_cons_zero, List.set_cons_succ]
      refine takeH (i := 1) (v := .slice (some ⟨xa, oa, none⟩) T.mail.length mca) (d := 57) rfl rfl (by kernel_rfl) (by kernel_rfl) (by kernel_rfl) (fun _ _ _ h => h) (by rfl) (fun V hV => by obtain ⟨v1, v2, v3, v4⟩ := hV; go_simp) HS0.out ?_
      simp only [Act.put, List.setIfInBounds_toArray, List.set_cons_zero, List.set_cons_succ]
      refine takeH (i := 2) (v := .int .i64 (k : Int)) (d := 58) rfl rfl (by kernel_rfl) (by kernel_rfl) (by kernel_rfl) (fun _ _ _ h => h) (by rfl) (fun V hV => by obtain ⟨v1, v2, v3, v4⟩ := hV; go_simp) HS0.out ?_
      simp only [Act.put, List.setIfInBounds_toArray, List.set_cons_zero, List.set_cons_succ]
      refine takeH (i := 3) (v := .pointer (some ⟨xa, oa + k, none⟩)) (d := 59) rfl rfl (by kernel_rfl) (by kernel_rfl) (by kernel_rfl) (fun _ _ _ h => h) (by rfl) (fun V hV => by obtain ⟨v1, v2, v3, v4⟩ := hV; go_simp) HS0.out ?_
      simp only [Act.put, List.setIfInBounds_toArray, List.set_cons_zero, List.set_cons_succ]
      refine takeH (i := 4) (v := .slice ua l.length uca) (d := 60) rfl rfl (by kernel_rfl) (by kernel_rfl) (by kernel_rfl) (fun _ _ _ h => h) (by rfl) (fun V hV => by obtain ⟨v1, v2, v3, v4⟩ := hV; go_simp) HS0.out ?_
      simp only [Act.put, List.setIfInBounds_toArray, List.set_cons_zero, List.set_cons_succ]
      refine takeH (i := 5) (v := .pointer (some ⟨w.heap.size + 1, 5, none⟩)) (d := 61) rfl rfl (by kernel_rfl) (by kernel_rfl) (by kernel_rfl) (fun _ _ _ h => h) (by rfl) (fun V hV => by obtain ⟨v1, v2, v3, v4⟩ := hV; go_simp) HS0.out ?_
      simp only [Act.put, List.setIfInBounds_toArray, List.set_cons_zero, List.set_cons_succ]
      refine takeH (i := 6) (v := .slice (some ⟨xb, ob, none⟩) T.mail.length mcb) (d := 62) rfl rfl (by kernel_rfl) (by kernel_rfl) (by kernel_rfl) (fun _ _ _ h => h) (by rfl) (fun V hV => by obtain ⟨v1, v2, v3, v4⟩ := hV; go_simp) HS0.out ?_
      simp only [Act.put, List.setIfInBounds_toArray, List.set_cons_zero, List.set_cons_succ]
      refine takeH (i := 7) (v := .int .i64 (k : Int)) (d := 63) rfl rfl (by kernel_rfl) (by kernel_rfl) (by kernel_rfl) (fun _ _ _ h => h) (by rfl) (fun V hV => by obtain ⟨v1, v2, v3, v4⟩ := hV; go_simp) HS0.out ?_
      simp only [Act.put, List.setIfInBounds_toArray, List.set_cons_zero, List.set_cons_succ]
      refine takeH (i := 8) (v := .pointer (some ⟨xb, ob + k, none⟩)) (d := 64) rfl rfl (by kernel_rfl) (by kernel_rfl) (by kernel_rfl) (fun _ _ _ h => h) (by rfl) (fun V hV => by obtain ⟨v1, v2, v3, v4⟩ := hV; go_simp) HS0.out ?_
      simp only [Act.put, List.setIfInBounds_toArray, List.set_cons_zero, List.set_cons_succ]
      refine takeH (i := 9) (v := .slice ub l.length ucb) (d := 65) rfl rfl (by kernel_rfl) (by kernel_rfl) (by kernel_rfl) (fun _ _ _ h => h) (by rfl) (fun V hV => by obtain ⟨v1, v2, v3, v4⟩ := hV; go_simp) HS0.out ?_
      simp only [Act.put, List.setIfInBounds_toArray, List.set_cons_zero, List.set_cons_succ]
      refine oneH (i := 10) rfl (by kernel_rfl) rfl (call_gets (d := 66) (f := 22) (xs := #[.tmp 60, .tmp 65]) (ats := #[41, 41]) rfl rfl es (vs := #[.slice ua l.length uca, .slice ub l.length ucb]) (by simp [Act.eval]) (CS.out wr.drew (Below.refl _ _).drew) ?_)
      rintro vr w4 ⟨rfl, hb4⟩
      have b4 : Below wr.heap.size wr w4 := (Below.refl _ _).drew.trans hb4
      have HS4 : Hid (w4.cell? ⟨w.heap.size, 5, none⟩ = some (.slice (some ⟨xa, oa, none⟩) T.mail.length mca) ∧ w4.cell? ⟨w.heap.size + 1, 5, none⟩ = some (.slice (some ⟨xb, ob, none⟩) T.mail.length mcb) ∧ w4.cell? ⟨xa, oa + k, none⟩ = some (.slice ua l.length uca) ∧ w4.cell? ⟨xb, ob + k, none⟩ = some (.slice ub l.length ucb)) := KEEP.out w4 b4
      refine ⟨HS4.out, ?_⟩
      simp only [Act.put, List.setIfInBounds_toArray, List.set_cons_zero, List.set_cons_succ]
      refine takeH (i := 11) (v := .bool false) (d := 67) rfl rfl (by kernel_rfl) (by kernel_rfl) (by kernel_rfl) (fun _ _ _ h => h) (by rfl) (fun V hV => by obtain ⟨v1, v2, v3, v4⟩ := hV; go_simp) HS4.out ?_
      simp only [Act.put, List.setIfInBounds_toArray, List.set_cons_zero, List.set_cons_succ]
      refine wpAnyH_done (by kernel_rfl) ?_ _
      have A4 : Hid (Below W0.heap.size W0 w4) := AB.out.trans (b4.mono hsr)
      clear HS4 HS0 KEEP hb4 b4
      go_wp2_with fail
      go_roundw
      case rel => exact ⟨k + 1, by omega, by go_num, A4.out⟩
      case measure => simp [intOf]; omega
    · go_wp2_with fail
      go_ret
      exact ⟨rfl, BW.out⟩
end Go.Proofs.Ytooaigcjpkhdhaa
