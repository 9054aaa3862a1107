/-
  Contract of rounds.Answer.
  Contract of the keeping laws' own ran: a job that is right, run to its end, and what it answers.
  Contract of the keeping laws' own sameInts, of lists that read alike.
  Rounds know of edges only whether they are there; how much mail there is, told vertex by vertex.
  Slices of a slice of edges: what they read as.
-/
import Derived.Test.YtbmkgnlfccigpabRoundsAlonePartA
import Derived.Test.YtbmkgnlfccigpabIntRow
import Derived.Test.YtbmkgnlfccigpabStaMem
import Derived.Test.YtbmkgnlfccigpabRegionCall
import Derived.Shelf.Abstract
import Derived.Test.YtbmkgnlfccigpabRowCore
import Derived.Deep.QuietTactic
import Derived.BigQuiet
import Derived.Test.YtbmkgnlfccigpabRoundMay
import Derived.Test.YtbmkgnlfccigpabRowMem

namespace Go.Proofs.Ytbmkgnlfccigpab
set_option maxRecDepth 100000
open Go.ChangeShapes Go.WideShapes Go.ChangeAt Go.RowKit

theorem ansE_not {n k s : Int} {es : List Ed} {T : StS} (h : staE n es k s T ≠ 0) : ansE n es k s T = (staE n es k s T, []) := by
  unfold ansE
  by_cases h1 : jobE n es k s = 0
  · rw [if_neg (by simp [h1])]
    have e : staE n es k s T = if mayR n.toNat k T then 0 else 9 := by unfold staE; rw [if_neg (by simp [h1])]
    cases h2 : mayR n.toNat k T
    · rw [e, h2]; rfl
    · rw [e, h2] at h; exact absurd rfl h
  · have e : staE n es k s T = jobE n es k s := by unfold staE; rw [if_pos h1]
    rw [if_pos h1, e]
theorem staE_fine {n k s : Int} {es : List Ed} {T : StS} (h : staE n es k s T = 0) : jobE n es k s = 0 ∧ mayR n.toNat k T = true := by
  unfold staE at h
  by_cases h1 : jobE n es k s = 0
  · rw [if_neg (by simp [h1])] at h
    refine ⟨h1, ?_⟩
    cases h2 : mayR n.toNat k T
    · rw [h2] at h; simp at h
    · rfl
  · rw [if_pos h1] at h; exact absurd h h1
/-- The numbers, as far as they are told. -/
def anP (k : Int) (vs : List Ml) (c : Nat) : List Int := (vs.map (tellV k)).take c ++ List.replicate (vs.length - c) 0
theorem anP_len {k : Int} {vs : List Ml} {c : Nat} (h : c ≤ vs.length) : (anP k vs c).length = vs.length := by simp [anP]; omega
theorem anP_zero (k : Int) (vs : List Ml) : anP k vs 0 = List.replicate vs.length 0 := by simp [anP]
theorem anP_all (k : Int) (vs : List Ml) : anP k vs vs.length = vs.map (tellV k) := by
  unfold anP
  rw [List.take_of_length_le (by simp)]
  simp
theorem anP_set {k : Int} {vs : List Ml} {c : Nat} {x : Ml} (h : vs[c]? = some x) : anP k vs (c + 1) = (anP k vs c).set c (tellV k x) := by
  have hc := (List.getElem?_eq_some_iff.1 h).1
  unfold anP
  rw [take_snoc (show (vs.map (tellV k))[c]? = some (tellV k x) by rw [List.getElem?_map, h]; rfl), List.append_assoc, show vs.length - c = (vs.length - (c + 1)) + 1 by omega, List.replicate_succ, List.set_append_right _ _ (by simp; omega)]
  simp [Nat.min_eq_left (Nat.le_of_lt hc)]

set_option maxHeartbeats 4000000 in
set_option maxRecDepth 100000 in
theorem rAnswer_any (v : Value) (es : List Ed) (n k s : Int) (T : StS) (vv vm : Value) (w : World) (h : EdR w v es) (hv : MlR w vv T.vals) (hm : LiR w vm T.mail) :
    Calls Try.prog 15 #[.agg #[.int .i64 n, v, .int .i64 k, .int .i64 s], .agg #[.int .i64 T.step, .int .i64 T.phase, .bool T.fresh, .bool T.done, vv, vm]] w (NumP w (ansE n es k s T)) := by
  have HR : Hid (EdR w v es) := h
  obtain ⟨a, cap, rfl, _, _, _, _⟩ := h
  have HV : Hid (MlR w vv T.vals) := hv
  have HM : Hid (LiR w vm T.mail) := hm
  obtain ⟨va, vc, rfl, hvc, hvm, _, _⟩ := hv
  obtain ⟨ma, mc, rfl, hmc, hmm, _⟩ := hm
  unfold maxLen at hvm hmm
  have CS : Hid (∀ X, EdR X (.slice a es.length cap) es → MlR X (.slice va T.vals.length vc) T.vals → LiR X (.slice ma T.mail.length mc) T.mail → Calls Try.prog 18 #[.agg #[.int .i64 n, .slice a es.length cap, .int .i64 k, .int .i64 s], .agg #[.int .i64 T.step, .int .i64 T.phase, .bool T.fresh, .bool T.done, .slice va T.vals.length vc, .slice ma T.mail.length mc]] X fun e w' => e = .returned (.int .i64 (staE n es k s T)) ∧ Below X.heap.size X w') := fun X h1 h2 h3 => rState_any _ es n k s T _ _ X h1 h2 h3
  have HNE : Hid (staE n es k s T ≠ 0 → ansE n es k s T = (staE n es k s T, [])) := ansE_not
  have HWT : Hid (staE n es k s T = 0 → T.done = false → ansE n es k s T = (12, [])) := fun h h2 => by
    obtain ⟨h3, h4⟩ := staE_fine h
    unfold ansE; rw [if_neg (by simp [h3]), if_neg (by simp [h4]), if_pos h2]
  have HYE : Hid (staE n es k s T = 0 → T.done = true → ansE n es k s T = (0, T.vals.map (tellV k))) := fun h h2 => by
    obtain ⟨h3, h4⟩ := staE_fine h
    unfold ansE; rw [if_neg (by simp [h3]), if_neg (by simp [h4]), if_neg (by simp [h2])]
  have HSZ : Hid (staE n es k s T = 0 → T.vals.length ≤ 200) := fun h => by
    obtain ⟨h3, h4⟩ := staE_fine h
    have h5 := (mayR_size h4).1
    have h6 := fault_ok (jobE_zero h3).1
    omega
  generalize ansE n es k s T = R at *
  generalize staE n es k s T = se at *
  obtain ⟨step, phase, fr, dn, vs, ms⟩ := T
  simp only at HV HM hvc hvm hmc hmm CS HWT HYE HSZ ⊢
  obtain ⟨W0, hW0⟩ : ∃ W0, W0 = (w.alloc (.cells #[.int .i64 n, .slice a es.length cap, .int .i64 k, .int .i64 s] 27)).alloc (.cells #[.int .i64 step, .int .i64 phase, .bool fr, .bool dn, .slice va vs.length vc, .slice ma ms.length mc] 34) := ⟨_, rfl⟩
  obtain ⟨Q0, T0, B0, s1, s2⟩ := boxes2 w #[.int .i64 n, .slice a es.length cap, .int .i64 k, .int .i64 s] #[.int .i64 step, .int .i64 phase, .bool fr, .bool dn, .slice va vs.length vc, .slice ma ms.length mc] 27 34 W0 hW0
  have BH : Hid (Below w.heap.size w W0) := B0
  have HK : Hid (∀ X, Below W0.heap.size W0 X → BX 27 X w.heap.size #[.int .i64 n, .slice a es.length cap, .int .i64 k, .int .i64 s] ∧ BX 34 X (w.heap.size + 1) #[.int .i64 step, .int .i64 phase, .bool fr, .bool dn, .slice va vs.length vc, .slice ma ms.length mc] ∧ Below w.heap.size w X) := fun X hX => ⟨Q0.below hX (by omega), T0.below hX (by omega), BH.out.trans (hX.mono (by omega))⟩
  have R0 : Hid (∀ X, Below W0.heap.size W0 X → EdR X (.slice a es.length cap) es ∧ MlR X (.slice va vs.length vc) vs ∧ LiR X (.slice ma ms.length mc) ms) := fun X hX => ⟨HR.out.below (HK.out _ hX).2.2 (Nat.le_refl _), HV.out.below (HK.out _ hX).2.2 (Nat.le_refl _), HM.out.below (HK.out _ hX).2.2 (Nat.le_refl _)⟩
  have A0 : Hid (Below W0.heap.size W0 W0) := Below.refl _ _
  have CS0 : Hid (∀ X, Below W0.heap.size W0 X → _) := fun X hX => CS.out X (R0.out X hX).1 (R0.out X hX).2.1 (R0.out X hX).2.2
  obtain ⟨q0, q1, q2, q3⟩ := Q0.all4
  obtain ⟨⟨c0, c1, c2, c3, c4, c5⟩, _⟩ := T0.all6
  clear Q0 T0 B0 CS
  by_cases h0 : se = 0
  · have hsz := HSZ.out h0
    have HW2 : Hid (dn = false → R = (12, [])) := HWT.out h0
    have HY2 : Hid (dn = true → R = (0, vs.map (tellV k))) := HYE.out h0
    rw [h0] at CS0
    clear h0 HNE HWT HYE HSZ
    go_enter Try.func15, Try.ntmps15
    go_upto_region 1 with fail
    rw [← hW0]
    clear hW0
    go_wp2_with fail
    refine (CS0.out _ A0.out).mono ?_
    rintro e w1 ⟨rfl, hb1⟩
    have A1 : Hid (Below W0.heap.size W0 w1) := hb1
    obtain ⟨Q1, T1, hbw⟩ := HK.out _ hb1
    have BW : Hid (Below w.heap.size w w1) := hbw
    clear q0 q1 q2 q3 c0 c1 c2 c3 c4 c5 hb1 CS0
    obtain ⟨q0, q1, q2, q3⟩ := Q1.all4
    obtain ⟨⟨c0, c1, c2, c3, c4, c5⟩, _⟩ := T1.all6
    clear Q1 T1 hbw
    cases dn
    · have HP : Hid (NumP w R (.returned (.tuple #[.slice none 0 0, .int .i64 12])) w1) := by
        show NumP _ _ _ _
        rw [HW2.out rfl]
        exact NumP.no BW.out
      go_wp2_with fail
      exact bodyPost_ret (v := .tuple #[.slice none 0 0, .int .i64 12]) (by simp [results, Try.results15, go_sem]) rfl HP.out
    · have HRR : Hid (R = (0, vs.map (tellV k))) := HY2.out rfl
      obtain ⟨w2, hmk, hon, hb2⟩ := make_ints w1 vs.length (by omega)
      have A2 : Hid (Below W0.heap.size W0 w2) := A1.out.trans (hb2.mono A1.out.size)
      have ON : Hid (w2.ownsRow W0.heap.size 3 1 (.slice (some ⟨w1.heap.size, 0, none⟩) vs.length vs.length) vs.length ((anP k vs 0).flatMap encI)) := by
        show World.ownsRow _ _ _ _ _ _ _
        rw [anP_zero]; exact own_lower hon A1.out.size
      obtain ⟨_, T2, _⟩ := HK.out _ A2.out
      obtain ⟨⟨m0, m1, m2, m3, m4, m5⟩, _⟩ := T2.all6
      generalize hg0 : w1.heap.size = g at *
      clear HW2 HY2 hon hb2 T2 hg0
      go_wp2_with fail
      clear q0 q1 q2 q3 c0 c1 c2 c3 c4 c5 m0 m1 m2 m3 m4 m5 hmk
      go_loopw [26] (fun i wr => ∃ c : Nat, c ≤ vs.length ∧ i = .int .i64 c ∧ wr.ownsRow W0.heap.size 3 1 (.slice (some ⟨g, 0, none⟩) vs.length vs.length) vs.length ((anP k vs c).flatMap encI) ∧ Below W0.heap.size W0 wr) (fun i _ => vs.length - (intOf i).toNat)
      case atStart => exact ⟨0, by omega, rfl, ON.out, A2.out⟩
      case round =>
        obtain ⟨c, hc, rfl, hown, hbel⟩ := hrel
        have OW : Hid (wr.ownsRow W0.heap.size 3 1 (.slice (some ⟨g, 0, none⟩) vs.length vs.length) vs.length ((anP k vs c).flatMap encI)) := hown
        have AB : Hid (Below W0.heap.size W0 wr) := hbel
        have hsr := hbel.size
        clear hown hbel ON A2 A1
        by_cases hlt : c < vs.length
        · obtain ⟨b1, o1, cap1, e1, lt1, hv1⟩ := MlR.read (R0.out _ AB.out).2.1 (by omega)
          injection e1 with e1 _ e3
          subst e1 e3
          obtain ⟨x, hx⟩ := getX hlt
          obtain ⟨d0, d1⟩ := hv1 c x hx
          have hgl := OW.out.lt g rfl
          have HNX : Hid (anP k vs (c + 1) = (anP k vs c).set c (tellV k x)) := anP_set hx
          obtain ⟨y, hy⟩ := getX (show c < (anP k vs c).length by rw [anP_len hc]; exact hlt)
          have p0 : (0 : Int) ≤ (c : Int) := by omega
          have p1 : (c : Int) < (vs.length : Int) := by omega
          obtain ⟨w3, hw3⟩ : ∃ w3, w3 = wr.alloc (.cells #[.int .i64 x.1, .int .i64 x.2] 44) := ⟨_, rfl⟩
          have X3 : BX 44 w3 wr.heap.size #[.int .i64 x.1, .int .i64 x.2] := by rw [hw3]; exact BX.new _ _ _
          have ba : Below wr.heap.size wr w3 := by rw [hw3]; exact below_alloc _ _
          have A3 : Hid (Below W0.heap.size W0 w3) := AB.out.trans (ba.mono hsr)
          have O3 : Hid (w3.ownsRow W0.heap.size 3 1 (.slice (some ⟨g, 0, none⟩) vs.length vs.length) vs.length ((anP k vs c).flatMap encI)) := own_below OW.out ba (Nat.le_refl _)
          obtain ⟨z0, z1, _⟩ := X3.all2
          have k0 := own_atN O3.out hy
          have f0 := frozenK O3.out c
          obtain ⟨w4, hw4⟩ : ∃ w4, w4 = w3.setCell ⟨g, c, none⟩ (.int .i64 x.1) := ⟨_, rfl⟩
          have kp4 : Kept (fun k => k = g) w3 w4 := by rw [hw4]; exact Kept.box _ _ _ _
          have A4 : Hid (Below W0.heap.size W0 w4) := by show Below _ _ _; rw [hw4]; exact A3.out.setCell (p := ⟨g, c, none⟩) hgl.1 _
          have O4 : Hid (w4.ownsRow W0.heap.size 3 1 (.slice (some ⟨g, 0, none⟩) vs.length vs.length) vs.length (((anP k vs c).set c x.1).flatMap encI)) := by show World.ownsRow _ _ _ _ _ _ _; rw [hw4]; exact own_setN O3.out
          have X4 := X3.kept kp4 (by omega)
          obtain ⟨y0, y1, _⟩ := X4.all2
          have HW4 : Hid (w4 = w3.setCell ⟨g, c, none⟩ (.int .i64 x.1)) := hw4
          clear hv1 hx hy hw4 X3 X4
          go_upto_region 10 with fail
          rw [← hw3]
          clear hw3
          go_upto_region 11 with fail
          rw [← HW4.out]
          clear HW4 z0 z1 k0 f0 d0 d1 kp4 ba
          obtain ⟨Q4, _, _⟩ := HK.out _ A4.out
          obtain ⟨q0, q1, q2, q3⟩ := Q4.all4
          clear Q4
          by_cases hk3 : k = 3
          · have ht : tellV k x = x.2 := by unfold tellV; rw [if_pos hk3]
            rw [ht] at HNX
            have t3 : (k == 3) = true := by simpa using hk3
            have hcl : c < ((anP k vs c).set c x.1).length := by rw [List.length_set, anP_len hc]; exact hlt
            have k0 := own_atN O4.out (List.getElem?_eq_getElem hcl)
            have f0 := frozenK O4.out c
            have O5 : Hid ((w4.setCell ⟨g, c, none⟩ (.int .i64 x.2)).ownsRow W0.heap.size 3 1 (.slice (some ⟨g, 0, none⟩) vs.length vs.length) vs.length ((anP k vs (c + 1)).flatMap encI)) := by
              show World.ownsRow _ _ _ _ _ _ _
              have := own_setN (j := c) (x := x.2) O4.out
              rw [List.set_set] at this
              rw [HNX.out]; exact this
            have A5 : Hid (Below W0.heap.size W0 (w4.setCell ⟨g, c, none⟩ (.int .i64 x.2))) := A4.out.setCell (p := ⟨g, c, none⟩) hgl.1 _
            clear ht hk3
            go_wp2_with fail
            go_roundw
            case rel => exact ⟨c + 1, by omega, by go_num, O5.out, A5.out⟩
            case measure => simp [intOf]; omega
          · have ht : tellV k x = x.1 := by unfold tellV; rw [if_neg hk3]
            rw [ht] at HNX
            have t3 : (k == 3) = false := by simpa using hk3
            have O5 : Hid (w4.ownsRow W0.heap.size 3 1 (.slice (some ⟨g, 0, none⟩) vs.length vs.length) vs.length ((anP k vs (c + 1)).flatMap encI)) := by
              show World.ownsRow _ _ _ _ _ _ _
              rw [HNX.out]; exact O4.out
            clear ht hk3
            go_wp2_with fail
            go_roundw
            case rel => exact ⟨c + 1, by omega, by go_num, O5.out, A4.out⟩
            case measure => simp [intOf]; omega
        · have ec : c = vs.length := by omega
          have OE : Hid (wr.ownsRow w.heap.size 3 1 (.slice (some ⟨g, 0, none⟩) vs.length vs.length) (vs.map (tellV k)).length ((vs.map (tellV k)).flatMap encI)) := by
            have := OW.out
            rw [ec, anP_all] at this
            rw [List.length_map]
            exact own_lower this (by omega)
          have BE : Hid (Below w.heap.size w wr) := (HK.out _ AB.out).2.2
          have HP : Hid (NumP w R (.returned (.tuple #[.slice (some ⟨g, 0, none⟩) vs.length vs.length, .int .i64 0])) wr) := by
            show NumP _ _ _ _
            rw [HRR.out]
            exact ⟨_, rfl, OE.out, BE.out⟩
          clear ec
          go_wp2_with fail
          exact bodyPost_ret (v := .tuple #[.slice (some ⟨g, 0, none⟩) vs.length vs.length, .int .i64 0]) (by simp [results, Try.results15, go_sem]) rfl HP.out
  · have HRE : Hid (R = (se, [])) := HNE.out h0
    have t0 : (se != 0) = true := by simpa using h0
    clear h0 HNE HWT HYE HSZ
    go_enter Try.func15, Try.ntmps15
    go_upto_region 1 with fail
    rw [← hW0]
    clear hW0
    go_wp2_with fail
    refine (CS0.out _ A0.out).mono ?_
    rintro e w1 ⟨rfl, hb1⟩
    obtain ⟨_, _, b1⟩ := HK.out _ hb1
    have HP : Hid (NumP w R (.returned (.tuple #[.slice none 0 0, .int .i64 se])) w1) := by
      show NumP _ _ _ _
      rw [HRE.out]
      exact NumP.no b1
    clear hb1 q0 q1 q2 q3 c0 c1 c2 c3 c4 c5 CS0 b1
    go_wp2_with fail
    exact bodyPost_ret (v := .tuple #[.slice none 0 0, .int .i64 se]) (by simp [results, Try.results15, go_sem]) rfl HP.out
end Go.Proofs.Ytbmkgnlfccigpab

namespace Go.Proofs.Ytbmkgnlfccigpab
set_option maxRecDepth 100000
open Go.ChangeShapes Go.WideShapes Go.ChangeAt Go.RowKit

set_option maxHeartbeats 2000000 in
set_option maxRecDepth 100000 in
theorem kran_any (v : Value) (es : List Ed) (n k s : Int) (T : StS) (w : World) (h : EdR w v es) (hT : RanT n es k s T) :
    Calls Try.prog 7 #[.agg #[.int .i64 n, v, .int .i64 k, .int .i64 s]] w fun e w' => ∃ la lc a1 n1 k1 a2 n2 k2, e = .returned (.tuple #[.slice la (T.vals.map (tellV k)).length lc, .agg #[.int .i64 T.step, .int .i64 T.phase, .bool T.fresh, .bool true, .slice a1 n1 k1, .slice a2 n2 k2], .bool true]) ∧ InR w' (.slice la (T.vals.map (tellV k)).length lc) (T.vals.map (tellV k)) ∧ Below w.heap.size w w' := by
  have HR : Hid (EdR w v es) := h
  obtain ⟨a, cap, rfl, _, _, _, _⟩ := h
  have CR : Hid (∀ X, EdR X (.slice a es.length cap) es → Calls Try.prog 14 #[.agg #[.int .i64 n, .slice a es.length cap, .int .i64 k, .int .i64 s]] X (StaP X (0, T))) := fun X hX => by
    have := rRun_any _ es n k s X hX
    rw [hT.ran] at this
    exact this
  have CA : Hid (∀ X vv vm, EdR X (.slice a es.length cap) es → MlR X vv T.vals → LiR X vm T.mail → Calls Try.prog 15 #[.agg #[.int .i64 n, .slice a es.length cap, .int .i64 k, .int .i64 s], .agg #[.int .i64 T.step, .int .i64 T.phase, .bool T.fresh, .bool T.done, vv, vm]] X (NumP X (0, T.vals.map (tellV k)))) := fun X vv vm h1 h2 h3 => by
    have h4 := rAnswer_any _ es n k s T vv vm X h1 h2 h3
    have h5 : ansE n es k s T = (0, T.vals.map (tellV k)) := by
      unfold ansE; rw [if_neg (by simp [hT.job]), if_neg (by simp [hT.may]), if_neg (by simp [hT.done])]
    rw [h5] at h4
    exact h4
  have hdn := hT.done
  clear hT
  obtain ⟨step, phase, fr, dn, vs, ms⟩ := T
  simp only at CR CA hdn ⊢
  subst hdn
  generalize hvl : vs.map (tellV k) = ls at *
  clear hvl
  obtain ⟨W0, hW0⟩ : ∃ W0, W0 = (w.alloc (.cells #[.int .i64 n, .slice a es.length cap, .int .i64 k, .int .i64 s] 27)).alloc (.cells #[.int .i64 0, .int .i64 0, .bool false, .bool false, .slice none 0 0, .slice none 0 0] 34) := ⟨_, rfl⟩
  obtain ⟨Q0, T0, B0, s1, s2⟩ := boxes2 w #[.int .i64 n, .slice a es.length cap, .int .i64 k, .int .i64 s] #[.int .i64 0, .int .i64 0, .bool false, .bool false, .slice none 0 0, .slice none 0 0] 27 34 W0 hW0
  have BH : Hid (Below w.heap.size w W0) := B0
  have HK : Hid (∀ X, Below W0.heap.size W0 X → BX 27 X w.heap.size #[.int .i64 n, .slice a es.length cap, .int .i64 k, .int .i64 s] ∧ BX 34 X (w.heap.size + 1) #[.int .i64 0, .int .i64 0, .bool false, .bool false, .slice none 0 0, .slice none 0 0] ∧ Below w.heap.size w X) := fun X hX => ⟨Q0.below hX (by omega), T0.below hX (by omega), BH.out.trans (hX.mono (by omega))⟩
  have R0 : Hid (∀ X, Below W0.heap.size W0 X → EdR X (.slice a es.length cap) es) := fun X hX => HR.out.below (HK.out _ hX).2.2 (Nat.le_refl _)
  have A0 : Hid (Below W0.heap.size W0 W0) := Below.refl _ _
  obtain ⟨q0, q1, q2, q3⟩ := Q0.all4
  clear Q0 T0 B0
  go_enter Try.func7, Try.ntmps7
  go_upto_region 1 with fail
  rw [← hW0]
  clear hW0
  go_wp2_with fail
  refine (CR.out _ (R0.out _ A0.out)).mono ?_
  rintro e w1 ⟨v1, v2, rfl, hv1, hv2, hb1⟩
  simp only at hv1 hv2
  obtain ⟨a1, n1, k1, rfl⟩ : ∃ a n c, v1 = .slice a n c := by
    rcases own_shapeK hv1 with ⟨e, _⟩ | ⟨g', c', e, _⟩
    · exact ⟨_, _, _, e⟩
    · exact ⟨_, _, _, e⟩
  obtain ⟨a2, k2, rfl⟩ := hv2.shape
  generalize hn2 : ms.length = n2 at *
  have W1 : Hid (Below W0.heap.size W0 (w1.alloc (.cells #[.int .i64 step, .int .i64 phase, .bool fr, .bool true, .slice a1 n1 k1, .slice a2 n2 k2] 34)) ∧ BX 34 (w1.alloc (.cells #[.int .i64 step, .int .i64 phase, .bool fr, .bool true, .slice a1 n1 k1, .slice a2 n2 k2] 34)) w1.heap.size #[.int .i64 step, .int .i64 phase, .bool fr, .bool true, .slice a1 n1 k1, .slice a2 n2 k2] ∧ MlR (w1.alloc (.cells #[.int .i64 step, .int .i64 phase, .bool fr, .bool true, .slice a1 n1 k1, .slice a2 n2 k2] 34)) (.slice a1 n1 k1) vs ∧ LiR (w1.alloc (.cells #[.int .i64 step, .int .i64 phase, .bool fr, .bool true, .slice a1 n1 k1, .slice a2 n2 k2] 34)) (.slice a2 n2 k2) ms ∧ W0.heap.size ≤ w1.heap.size) := ⟨hb1.alloc hb1.size _, BX.new _ _ _, RowK.own encM_len (hv1.alloc _), (hv2.below (below_alloc _ _) (Nat.le_refl _)).reads, hb1.size⟩
  clear q0 q1 q2 q3 hv1 hv2 hb1 CR hn2
  go_upto_region 2 with fail
  generalize w1.alloc (.cells #[.int .i64 step, .int .i64 phase, .bool fr, .bool true, .slice a1 n1 k1, .slice a2 n2 k2] 34) = w2 at *
  generalize w1.heap.size = b5 at *
  obtain ⟨A2', X2', V2', M2', hb5⟩ := W1.out
  have A2 : Hid (Below W0.heap.size W0 w2) := A2'
  have X2 : Hid (BX 34 w2 b5 #[.int .i64 step, .int .i64 phase, .bool fr, .bool true, .slice a1 n1 k1, .slice a2 n2 k2]) := X2'
  have V2 : Hid (MlR w2 (.slice a1 n1 k1) vs) := V2'
  have M2 : Hid (LiR w2 (.slice a2 n2 k2) ms) := M2'
  obtain ⟨Q2, _, _⟩ := HK.out _ A2'
  obtain ⟨q0, q1, q2, q3⟩ := Q2.all4
  obtain ⟨⟨c0, c1, c2, c3, c4, c5⟩, _⟩ := X2'.all6
  clear A2' X2' V2' M2' W1 Q2
  go_wp2_with fail
  refine (CA.out _ _ _ (R0.out _ A2.out) V2.out M2.out).mono ?_
  rintro e w3 ⟨vl, rfl, hl, hb3⟩
  simp only at hl
  have RL : InR w3 vl ls := RowK.own encI_len hl
  obtain ⟨la, lc, rfl⟩ := RL.shape
  have A3 : Below W0.heap.size W0 w3 := A2.out.trans (hb3.mono A2.out.size)
  obtain ⟨_, Z3, BW3⟩ := HK.out _ A3
  have X3 := X2.out.below hb3 X2.out.lt
  have hne : b5 ≠ w.heap.size + 1 := by omega
  have Z3d : BX 34 w3.drew (w.heap.size + 1) #[.int .i64 0, .int .i64 0, .bool false, .bool false, .slice none 0 0, .slice none 0 0] := Z3
  have hld := own_below hl (Below.refl _ _).drew (Nat.le_refl _)
  have RX : Hid (BX 34 (put6 w3.drew (w.heap.size + 1) (.int .i64 step) (.int .i64 phase) (.bool fr) (.bool true) (.slice a1 n1 k1) (.slice a2 n2 k2)) (w.heap.size + 1) #[.int .i64 step, .int .i64 phase, .bool fr, .bool true, .slice a1 n1 k1, .slice a2 n2 k2]) := Z3d.put6
  have HP : Hid (InR (put6 w3.drew (w.heap.size + 1) (.int .i64 step) (.int .i64 phase) (.bool fr) (.bool true) (.slice a1 n1 k1) (.slice a2 n2 k2)) (.slice la ls.length lc) ls ∧ Below w.heap.size w (put6 w3.drew (w.heap.size + 1) (.int .i64 step) (.int .i64 phase) (.bool fr) (.bool true) (.slice a1 n1 k1) (.slice a2 n2 k2))) := ⟨RowK.own encI_len (own_off hld Z3d (by decide) (kept_put6 w3.drew (w.heap.size + 1) (.int .i64 step) (.int .i64 phase) (.bool fr) (.bool true) (.slice a1 n1 k1) (.slice a2 n2 k2))), below_put6 BW3.drew (by omega) Z3d.lt _ _ _ _ _ _⟩
  clear q0 q1 q2 q3 c0 c1 c2 c3 c4 c5
  obtain ⟨⟨c0, c1, c2, c3, c4, c5⟩, _⟩ := X3.all6
  obtain ⟨⟨d0, d1, d2, d3, d4, d5⟩, e0, e1, e2, e3, e4, e5⟩ := Z3.all6
  have X3d : BX 34 w3.drew b5 #[.int .i64 step, .int .i64 phase, .bool fr, .bool true, .slice a1 n1 k1, .slice a2 n2 k2] := X3
  have KP : Hid (∀ V, Kept (fun q => q = w.heap.size + 1) w3.drew V → V.cell? ⟨b5, 0, none⟩ = some (.int .i64 step) ∧ V.cell? ⟨b5, 1, none⟩ = some (.int .i64 phase) ∧ V.cell? ⟨b5, 2, none⟩ = some (.bool fr) ∧ V.cell? ⟨b5, 3, none⟩ = some (.bool true) ∧ V.cell? ⟨b5, 4, none⟩ = some (.slice a1 n1 k1) ∧ V.cell? ⟨b5, 5, none⟩ = some (.slice a2 n2 k2)) := fun V hV => (BX.kept (S := fun q => q = w.heap.size + 1) X3d hV hne).all6.1
  clear hl hld hb3 RL A3 Z3 Z3d BW3 X3 X3d A2 X2 V2 M2 CA
  go_upto_region 3 with fail
  have HS0 : Hid (w3.drew.cell? ⟨b5, 0, none⟩ = some (.int .i64 step) ∧ w3.drew.cell? ⟨b5, 1, none⟩ = some (.int .i64 phase) ∧ w3.drew.cell? ⟨b5, 2, none⟩ = some (.bool fr) ∧ w3.drew.cell? ⟨b5, 3, none⟩ = some (.bool true) ∧ w3.drew.cell? ⟨b5, 4, none⟩ = some (.slice a1 n1 k1) ∧ w3.drew.cell? ⟨b5, 5, none⟩ = some (.slice a2 n2 k2)) := KP.out _ (Kept.refl _ _)
  refine wp_region_held (S := fun V => (V.cell? ⟨b5, 0, none⟩ = some (.int .i64 step) ∧ V.cell? ⟨b5, 1, none⟩ = some (.int .i64 phase) ∧ V.cell? ⟨b5, 2, none⟩ = some (.bool fr) ∧ V.cell? ⟨b5, 3, none⟩ = some (.bool true) ∧ V.cell? ⟨b5, 4, none⟩ = some (.slice a1 n1 k1) ∧ V.cell? ⟨b5, 5, none⟩ = some (.slice a2 n2 k2))) (by kernel_rfl) ?_
  simp only [List.size_toArray, List.length_cons, List.length_nil, Nat.reduceAdd]
  refine takeH (i := 0) (v := .slice la ls.length lc) (d := 20) rfl rfl (by kernel_rfl) (by kernel_rfl) (by kernel_rfl) (fun _ _ _ h => h) (by rfl) (fun V hV => by obtain ⟨v1, v2, v3, v4, v5, v6⟩ := hV; go_simp) HS0.out ?_
  simp only [Act.put, List.setIfInBounds_toArray, List.set_cons_zero, List.set_cons_succ]
  refine takeH (i := 1) (v := .agg #[.int .i64 step, .int .i64 phase, .bool fr, .bool true, .slice a1 n1 k1, .slice a2 n2 k2]) (d := 21) rfl rfl (by kernel_rfl) (by kernel_rfl) (by kernel_rfl) (fun _ _ _ h => h) (by rfl) (fun V hV => by obtain ⟨v1, v2, v3, v4, v5, v6⟩ := hV; go_simp) HS0.out ?_
  simp only [Act.put, List.setIfInBounds_toArray, List.set_cons_zero, List.set_cons_succ]
  refine takeH (i := 2) (v := .int .i64 0) (d := 22) rfl rfl (by kernel_rfl) (by kernel_rfl) (by kernel_rfl) (fun _ _ _ h => h) (by rfl) (fun V hV => by obtain ⟨v1, v2, v3, v4, v5, v6⟩ := hV; go_simp) HS0.out ?_
  simp only [Act.put, List.setIfInBounds_toArray, List.set_cons_zero, List.set_cons_succ]
  refine takeH (i := 3) (v := .bool true) (d := 23) rfl rfl (by kernel_rfl) (by kernel_rfl) (by kernel_rfl) (fun _ _ _ h => h) (by rfl) (fun V hV => by obtain ⟨v1, v2, v3, v4, v5, v6⟩ := hV; go_simp) HS0.out ?_
  simp only [Act.put, List.setIfInBounds_toArray, List.set_cons_zero, List.set_cons_succ]
  refine takeH (i := 4) (v := .bool true) (d := 24) rfl rfl (by kernel_rfl) (by kernel_rfl) (by kernel_rfl) (fun _ _ _ h => h) (by rfl) (fun V hV => by obtain ⟨v1, v2, v3, v4, v5, v6⟩ := hV; go_simp) HS0.out ?_
  simp only [Act.put, List.setIfInBounds_toArray, List.set_cons_zero, List.set_cons_succ]
  refine takeH (i := 5) (v := .int .i64 0) (d := 25) rfl rfl (by kernel_rfl) (by kernel_rfl) (by kernel_rfl) (fun _ _ _ h => h) (by rfl) (fun V hV => by obtain ⟨v1, v2, v3, v4, v5, v6⟩ := hV; go_simp) HS0.out ?_
  simp only [Act.put, List.setIfInBounds_toArray, List.set_cons_zero, List.set_cons_succ]
  refine takeH (i := 6) (v := .bool true) (d := 26) rfl rfl (by kernel_rfl) (by kernel_rfl) (by kernel_rfl) (fun _ _ _ h => h) (by rfl) (fun V hV => by obtain ⟨v1, v2, v3, v4, v5, v6⟩ := hV; go_simp) HS0.out ?_
  simp only [Act.put, List.setIfInBounds_toArray, List.set_cons_zero, List.set_cons_succ]
  refine takeH (i := 7) (v := .bool true) (d := 27) rfl rfl (by kernel_rfl) (by kernel_rfl) (by kernel_rfl) (fun _ _ _ h => h) (by rfl) (fun V hV => by obtain ⟨v1, v2, v3, v4, v5, v6⟩ := hV; go_simp) HS0.out ?_
  simp only [Act.put, List.setIfInBounds_toArray, List.set_cons_zero, List.set_cons_succ]
  refine takeH (i := 8) (v := .bool true) (d := 28) rfl rfl (by kernel_rfl) (by kernel_rfl) (by kernel_rfl) (fun _ _ _ h => h) (by rfl) (fun V hV => by obtain ⟨v1, v2, v3, v4, v5, v6⟩ := hV; go_simp) HS0.out ?_
  simp only [Act.put, List.setIfInBounds_toArray, List.set_cons_zero, List.set_cons_succ]
  refine takeH (i := 9) (v := .pointer (some ⟨b5, 3, none⟩)) (d := 29) rfl rfl (by kernel_rfl) (by kernel_rfl) (by kernel_rfl) (fun _ _ _ h => h) (by rfl) (fun V hV => by obtain ⟨v1, v2, v3, v4, v5, v6⟩ := hV; go_simp) HS0.out ?_
  simp only [Act.put, List.setIfInBounds_toArray, List.set_cons_zero, List.set_cons_succ]
  refine takeH (i := 10) (v := .bool true) (d := 30) rfl rfl (by kernel_rfl) (by kernel_rfl) (by kernel_rfl) (fun _ _ _ h => h) (by rfl) (fun V hV => by obtain ⟨v1, v2, v3, v4, v5, v6⟩ := hV; go_simp) HS0.out ?_
  simp only [Act.put, List.setIfInBounds_toArray, List.set_cons_zero, List.set_cons_succ]
  refine takeH (i := 11) (v := .bool true) (d := 31) rfl rfl (by kernel_rfl) (by kernel_rfl) (by kernel_rfl) (fun _ _ _ h => h) (by rfl) (fun V hV => by obtain ⟨v1, v2, v3, v4, v5, v6⟩ := hV; go_simp) HS0.out ?_
  simp only [Act.put, List.setIfInBounds_toArray, List.set_cons_zero, List.set_cons_succ]
  refine takeH (i := 12) (v := .slice la ls.length lc) (d := 2) rfl rfl (by kernel_rfl) (by kernel_rfl) (by kernel_rfl) (fun _ _ _ h => h) (by rfl) (fun V hV => by obtain ⟨v1, v2, v3, v4, v5, v6⟩ := hV; go_simp) HS0.out ?_
  simp only [Act.put, List.setIfInBounds_toArray, List.set_cons_zero, List.set_cons_succ]
  have HS1 : Hid ((put6 w3.drew (w.heap.size + 1) (.int .i64 step) (.int .i64 phase) (.bool fr) (.bool true) (.slice a1 n1 k1) (.slice a2 n2 k2)).cell? ⟨b5, 0, none⟩ = some (.int .i64 step) ∧ (put6 w3.drew (w.heap.size + 1) (.int .i64 step) (.int .i64 phase) (.bool fr) (.bool true) (.slice a1 n1 k1) (.slice a2 n2 k2)).cell? ⟨b5, 1, none⟩ = some (.int .i64 phase) ∧ (put6 w3.drew (w.heap.size + 1) (.int .i64 step) (.int .i64 phase) (.bool fr) (.bool true) (.slice a1 n1 k1) (.slice a2 n2 k2)).cell? ⟨b5, 2, none⟩ = some (.bool fr) ∧ (put6 w3.drew (w.heap.size + 1) (.int .i64 step) (.int .i64 phase) (.bool fr) (.bool true) (.slice a1 n1 k1) (.slice a2 n2 k2)).cell? ⟨b5, 3, none⟩ = some (.bool true) ∧ (put6 w3.drew (w.heap.size + 1) (.int .i64 step) (.int .i64 phase) (.bool fr) (.bool true) (.slice a1 n1 k1) (.slice a2 n2 k2)).cell? ⟨b5, 4, none⟩ = some (.slice a1 n1 k1) ∧ (put6 w3.drew (w.heap.size + 1) (.int .i64 step) (.int .i64 phase) (.bool fr) (.bool true) (.slice a1 n1 k1) (.slice a2 n2 k2)).cell? ⟨b5, 5, none⟩ = some (.slice a2 n2 k2)) := KP.out _ (kept_put6 _ _ _ _ _ _ _ _)
  refine oneH (i := 13) rfl (by kernel_rfl) rfl (op_skip (w' := put6 w3.drew (w.heap.size + 1) (.int .i64 step) (.int .i64 phase) (.bool fr) (.bool true) (.slice a1 n1 k1) (.slice a2 n2 k2)) rfl (by unfold put6; go_simp) ⟨HS1.out, ?_⟩)
  refine takeH (i := 14) (v := .bool true) (d := 4) rfl rfl (by kernel_rfl) (by kernel_rfl) (by kernel_rfl) (fun _ _ _ h => h) (by rfl) (fun V hV => by obtain ⟨v1, v2, v3, v4, v5, v6⟩ := hV; go_simp) HS1.out ?_
  simp only [Act.put, List.setIfInBounds_toArray, List.set_cons_zero, List.set_cons_succ]
  refine wpAnyH_done (by kernel_rfl) ?_ _
  obtain ⟨⟨r0, r1, r2, r3, r4, r5⟩, _⟩ := RX.out.all6
  clear HS0 HS1 KP c0 c1 c2 c3 c4 c5 d0 d1 d2 d3 d4 d5 e0 e1 e2 e3 e4 e5
  generalize put6 w3.drew (w.heap.size + 1) (.int .i64 step) (.int .i64 phase) (.bool fr) (.bool true) (.slice a1 n1 k1) (.slice a2 n2 k2) = WZ at *
  go_wp2_with fail
  exact bodyPost_ret (v := .tuple #[.slice la ls.length lc, .agg #[.int .i64 step, .int .i64 phase, .bool fr, .bool true, .slice a1 n1 k1, .slice a2 n2 k2], .bool true]) (by simp [results, Try.results7, go_sem, r0, r1, r2, r3, r4, r5]) rfl ⟨_, _, _, _, _, _, _, _, rfl, HP.out.1, HP.out.2⟩
end Go.Proofs.Ytbmkgnlfccigpab

namespace Go.Proofs.Ytbmkgnlfccigpab
set_option maxRecDepth 100000
open Go.ChangeShapes Go.WideShapes Go.ChangeAt Go.RowKit

set_option maxHeartbeats 1000000 in
set_option maxRecDepth 100000 in
theorem sameIntsK_yes (va vb : Value) (es : List Int) (w : World) (ha : InR w va es) (hb : InR w vb es) :
    Calls Try.prog 8 #[va, vb] w fun e w' => e = .returned (.bool true) ∧ Below w.heap.size w w' := by
  have HA : Hid (InR w va es) := ha
  have HB : Hid (InR w vb es) := hb
  obtain ⟨a, ca, rfl, hca, hma, _, _⟩ := ha
  obtain ⟨b, cb, rfl, hcb, hmb, _, _⟩ := hb
  unfold maxLen at hma hmb
  have hll : ((es.length : Int) != (es.length : Int)) = false := by simp
  go_enter Try.func8, Try.ntmps8
  go_wp2_with fail
  go_loopw [5] (fun i wr => ∃ k : Nat, k ≤ es.length ∧ i = .int .i64 k ∧ Below w.heap.size w wr) (fun i _ => es.length - (intOf i).toNat)
  case atStart => exact ⟨0, by omega, rfl, Below.refl _ _⟩
  case round =>
    obtain ⟨k, hk, rfl, hbel⟩ := hrel
    have HBL : Hid (Below w.heap.size w wr) := hbel
    clear hbel
    by_cases hlt : k < es.length
    · obtain ⟨xa, oa, cap', e1, _, _, la, hva⟩ := InR.at (HA.out.below HBL.out (Nat.le_refl _)) (by omega)
      injection e1 with e1 _ e3
      subst e1 e3
      obtain ⟨xb, ob, cap', e1, _, _, lb, hvb⟩ := InR.at (HB.out.below HBL.out (Nat.le_refl _)) (by omega)
      injection e1 with e1 _ e3
      subst e1 e3
      obtain ⟨x, hx⟩ := getX hlt
      have p0 : (0 : Int) ≤ (k : Int) := by omega
      have p1 : (k : Int) < (es.length : Int) := by omega
      have c1 := hva k x hx
      have d1 := hvb k x hx
      have hxx : (x != x) = false := by simp
      clear hva hvb hx
      go_wp2_with fail
      go_quiet (fail)
      go_wp2_with fail
      go_roundw
      case rel => exact ⟨k + 1, by omega, by go_num, below_drewN HBL.out _⟩
      case measure => simp [intOf]; omega
    · go_wp2_with fail
      go_ret
      exact ⟨rfl, HBL.out⟩
end Go.Proofs.Ytbmkgnlfccigpab

namespace Go.Proofs.Ytbmkgnlfccigpab
set_option maxRecDepth 100000

theorem hasB_same {m m' : List Int} {a : Int} (h : ∀ y, y ∈ m ↔ y ∈ m') : hasB m a = hasB m' a := by
  rw [Bool.eq_iff_iff, hasB_iff, hasB_iff]
  exact h a
/-- What a vertex does hangs on what is in its mail alone. -/
theorem wake_same : ∀ (j : Jb) {v s : Int} {x : Ml} {b : Bool} {m m' : List Int}, -1 ≤ x.1 → (∀ y ∈ m, 0 ≤ y) → (∀ y, y ∈ m ↔ y ∈ m') → wakeV j v s x b m = wakeV j v s x b m' := by
  have low : ∀ {x : Ml} {m m' : List Int}, -1 ≤ x.1 → (∀ y ∈ m, 0 ≤ y) → (∀ y, y ∈ m ↔ y ∈ m') → lowV x m = lowV x m' := fun h1 h2 h3 => by
    unfold lowV
    rw [lowF_same h1 h2 h3]
  refine jb_cases ?_ ?_ ?_ ?_ <;> intro v s x b m m' h1 h2 h3 <;> cases b
  · exact low h1 h2 h3
  · rfl
  · exact low h1 h2 h3
  · rfl
  · show (if x.2 = -1 then lowV x m else (x, false)) = if x.2 = -1 then lowV x m' else (x, false)
    rw [low h1 h2 h3]
  · rfl
  · show (if x.2 = -1 then labF x (hasB m x.1) else (x, false)) = if x.2 = -1 then labF x (hasB m' x.1) else (x, false)
    rw [hasB_same h3]
  · rfl
/-- Two states that differ only in how often a piece of mail is there. -/
structure SimI (n : Nat) (t t' : StS) : Prop where
  step : t'.step = t.step
  phase : t'.phase = t.phase
  fresh : t'.fresh = t.fresh
  done : t'.done = t.done
  vals : t'.vals = t.vals
  mail : ∀ v : Int, 0 ≤ v ∧ v < (n : Int) → ∀ x, x ∈ mlA t.mail v ↔ x ∈ mlA t'.mail v
section
variable {n : Nat} {es es' : List Ed} {j : Jb} {k s : Int} {t t' : StS}
theorem SimI.rnd (h : SimI n t t') (hM : MayI n j t) {v : Int} (hv : 0 ≤ v ∧ v < (n : Int)) : rndV j s t' v = rndV j s t v := by
  have hm := h.mail v hv
  have he : (mlA t'.mail v).isEmpty = (mlA t.mail v).isEmpty := by
    rw [Bool.eq_iff_iff, List.isEmpty_iff, List.isEmpty_iff, List.eq_nil_iff_forall_not_mem, List.eq_nil_iff_forall_not_mem]
    exact ⟨fun g x hx => g x ((hm x).1 hx), fun g x hx => g x ((hm x).2 hx)⟩
  unfold rndV
  rw [h.fresh, h.vals, he]
  split
  · exact (wake_same j (valB_iff.1 (hM.val _ (vlA_in hM.lv hv))).1.1 (fun y hy => (mailB_iff.1 (hM.mls _ (mlA_in hM.lm hv)).1 y hy).1) hm).symm
  · rfl
theorem msgs_same {r r' : Int → Ml × Bool} (hg : InG n es) (he : ∀ e, e ∈ es ↔ e ∈ es') (hr : ∀ v : Int, 0 ≤ v ∧ v < (n : Int) → r' v = r v) (u x : Int) : x ∈ msgs j r es u ↔ x ∈ msgs j r' es' u := by
  have hr1 : ∀ e ∈ es, r' e.1 = r e.1 ∧ r' e.2.1 = r e.2.1 := fun e h => by
    obtain ⟨f0, f1, t0, t1, _⟩ := hg e h
    exact ⟨hr _ ⟨f0, f1⟩, hr _ ⟨t0, t1⟩⟩
  rw [msgs_mem, msgs_mem]
  constructor
  · rintro (⟨e, h, h1, h2, h3, h4⟩ | ⟨e, h, h1, h2, h3, h4⟩)
    · exact .inl ⟨e, (he e).1 h, h1, h2, by rw [(hr1 e h).1]; exact h3, by rw [(hr1 e h).1]; exact h4⟩
    · exact .inr ⟨e, (he e).1 h, h1, h2, by rw [(hr1 e h).2]; exact h3, by rw [(hr1 e h).2]; exact h4⟩
  · rintro (⟨e, h, h1, h2, h3, h4⟩ | ⟨e, h, h1, h2, h3, h4⟩)
    · have h' := (he e).2 h
      rw [(hr1 e h').1] at h3 h4
      exact .inl ⟨e, h', h1, h2, h3, h4⟩
    · have h' := (he e).2 h
      rw [(hr1 e h').2] at h3 h4
      exact .inr ⟨e, h', h1, h2, h3, h4⟩
theorem over_same {r r' : Int → Ml × Bool} (hg : InG n es) (he : ∀ e, e ∈ es ↔ e ∈ es') (hr : ∀ v : Int, 0 ≤ v ∧ v < (n : Int) → r' v = r v) (ho : overR j r es = false) : overR j r' es' = false := by
  unfold overR at ho ⊢
  rw [List.any_eq_false] at ho ⊢
  intro e h
  have h' := (he e).2 h
  obtain ⟨f0, f1, _⟩ := hg e h'
  rw [hr _ ⟨f0, f1⟩]
  exact ho e h'
theorem vals_same {r r' : Int → Ml × Bool} (hr : ∀ v : Int, 0 ≤ v ∧ v < (n : Int) → r' v = r v) : valsR n r' = valsR n r := List.map_congr_left fun v hv => by
  have := List.mem_range.1 hv
  rw [hr (v : Int) ⟨by omega, by omega⟩]
theorem SimI.next (h : SimI n t t') (hM : MayI n j t) (hg : InG n es) (he : ∀ e, e ∈ es ↔ e ∈ es') : SimI n (nextS n es j s t) (nextS n es' j s t') := by
  have hr : ∀ v : Int, 0 ≤ v ∧ v < (n : Int) → rndV j s t' v = rndV j s t v := fun v hv => h.rnd hM hv
  have hm := msgs_same (j := j) hg he hr
  have hz : manyL (mailR n j (rndV j s t) es) = 0 ↔ manyL (mailR n j (rndV j s t') es') = 0 := by
    rw [mailR_zero, mailR_zero]
    constructor
    · intro g u hu
      refine List.eq_nil_iff_forall_not_mem.2 fun x hx => ?_
      have := (hm u x).2 hx
      rw [g u hu] at this
      simp at this
    · intro g u hu
      refine List.eq_nil_iff_forall_not_mem.2 fun x hx => ?_
      have := (hm u x).1 hx
      rw [g u hu] at this
      simp at this
  have hmail : ∀ v : Int, 0 ≤ v ∧ v < (n : Int) → ∀ x, x ∈ mlA (mailR n j (rndV j s t) es) v ↔ x ∈ mlA (mailR n j (rndV j s t') es') v := fun v hv x => by
    rw [mlA_mail hv, mlA_mail hv, sortN_mem, sortN_mem]
    exact hm v x
  unfold nextS behR
  rw [h.step, h.phase, vals_same hr]
  by_cases e : manyL (mailR n j (rndV j s t) es) = 0
  · rw [if_neg (show ¬ 0 < manyL (mailR n j (rndV j s t) es) by omega), if_neg (show ¬ 0 < manyL (mailR n j (rndV j s t') es') by rw [hz.1 e]; omega)]
    split <;> exact ⟨rfl, rfl, rfl, rfl, rfl, hmail⟩
  · have e' : ¬ manyL (mailR n j (rndV j s t') es') = 0 := fun g => e (hz.2 g)
    rw [if_pos (show 0 < manyL (mailR n j (rndV j s t) es) by omega), if_pos (show 0 < manyL (mailR n j (rndV j s t') es') by omega)]
    exact ⟨rfl, rfl, rfl, rfl, rfl, hmail⟩
/-- Edges in another order, or some of them twice: as many rounds, and the same values. -/
theorem goes_same (hn : n ≤ 200) (hg : InG n es) (hl : es.length ≤ 600) (he : ∀ e, e ∈ es ↔ e ∈ es') : ∀ (i : Nat) (t t1 t' : StS), GoesR n es k s i t t1 → mayR n k t = true → t.step + i ≤ 100000 → SimI n t t' → ∃ t1', GoesR n es' k s i t' t1' ∧ SimI n t1 t1'
  | 0, t, t1, t', h, _, _, hS => by
    have e : t = t1 := h
    subst e
    exact ⟨t', rfl, hS⟩
  | i + 1, t, t1, t', h, hm, hs, hS => by
    obtain ⟨hd, j, hj, ho, h2⟩ := h
    obtain ⟨j1, hj1, hM⟩ := mayR_iff.1 hm
    rw [hj] at hj1
    injection hj1 with hj1
    subst hj1
    have hst : t.step < 100000 := by omega
    have hN := hM.next (s := s) hj hn hg hl hst ho
    have hs1 : (nextS n es j s t).step = t.step + 1 := (behR_step j _ _ _ _).1
    have hr : ∀ v : Int, 0 ≤ v ∧ v < (n : Int) → rndV j s t' v = rndV j s t v := fun v hv => hS.rnd hM hv
    obtain ⟨t1', g1, g2⟩ := goes_same hn hg hl he i _ t1 _ h2 (mayR_iff.2 hN) (by rw [hs1]; omega) (hS.next (s := s) hM hg he)
    exact ⟨t1', ⟨by rw [hS.done]; exact hd, j, by rw [hS.phase]; exact hj, over_same hg he hr ho, g1⟩, g2⟩
theorem SimI.refl (n : Nat) (t : StS) : SimI n t t := ⟨rfl, rfl, rfl, rfl, rfl, fun _ _ _ => Iff.rfl⟩
end
/-- How much a vertex says. -/
def cntV (j : Jb) (r : Int → Ml × Bool) (es : List Ed) (v : Int) : Nat := if (r v).2 then (if (wayJ j).1 then es.countP (fun e => e.1 == v) else 0) + (if (wayJ j).2 then es.countP (fun e => e.2.1 == v) else 0) else 0
/-- Told vertex by vertex it is as much as told edge by edge. -/
theorem cnt_turn {n : Nat} {es : List Ed} (hg : InG n es) (j : Jb) (r : Int → Ml × Bool) : ((List.range n).map fun v : Nat => cntV j r es (v : Int)).sum = (es.map (cntE j r)).sum := by
  induction es with
  | nil =>
    rw [sum_none (f := fun v : Nat => cntV j r [] (v : Int)) fun v _ => by unfold cntV; simp]
    rfl
  | cons e es ih =>
    obtain ⟨f0, f1, t0, t1, _⟩ := hg e (by simp)
    have e2 : (fun v : Nat => cntV j r (e :: es) (v : Int)) = fun v : Nat => ((if e.1 = (v : Int) then (if (wayJ j).1 && (r e.1).2 then 1 else 0) else 0) + (if e.2.1 = (v : Int) then (if (wayJ j).2 && (r e.2.1).2 then 1 else 0) else 0)) + cntV j r es (v : Int) := by
      funext v
      unfold cntV
      rw [List.countP_cons, List.countP_cons]
      by_cases h1 : e.1 = (v : Int)
      · by_cases h2 : e.2.1 = (v : Int)
        · rw [if_pos h1, if_pos h2, h1, h2]
          cases (wayJ j).1 <;> cases (wayJ j).2 <;> cases (r (v : Int)).2 <;> simp <;> omega
        · rw [if_pos h1, if_neg h2, h1]
          have h2' : (e.2.1 == (v : Int)) = false := by simpa using h2
          rw [h2']
          cases (wayJ j).1 <;> cases (wayJ j).2 <;> cases (r (v : Int)).2 <;> simp <;> omega
      · have h1' : (e.1 == (v : Int)) = false := by simpa using h1
        rw [h1']
        by_cases h2 : e.2.1 = (v : Int)
        · rw [if_neg h1, if_pos h2, h2]
          cases (wayJ j).1 <;> cases (wayJ j).2 <;> cases (r (v : Int)).2 <;> simp <;> omega
        · rw [if_neg h1, if_neg h2]
          have h2' : (e.2.1 == (v : Int)) = false := by simpa using h2
          rw [h2']
          simp
    rw [e2, sum_add, sum_add, sum_one ⟨f0, f1⟩, sum_one ⟨t0, t1⟩, ih fun d hd => hg d (by simp [hd]), List.map_cons, List.sum_cons]
    rfl
end Go.Proofs.Ytbmkgnlfccigpab

namespace Go.Proofs.Ytbmkgnlfccigpab
set_option maxRecDepth 100000
open Go.ChangeShapes Go.WideShapes Go.ChangeAt Go.RowKit

/-- s[lo:hi:m]. -/
def cutE (a : Option Addr) (lo hi m : Nat) : Value := .slice (if m = lo then a else a.map (·.add (lo * 3))) (hi - lo) (m - lo)
theorem run_cutEF (a : Option Addr) (len cap lo : Nat) (h1 : lo ≤ len) (w : World) : (Instr.slice 23 (.slice a len cap) (some (.int .i64 (lo : Int))) none none).run Try.prog w = .ok (cutE a lo len cap) w := by
  have hsz : (sizeOf (Try.prog.elem 23)).run Try.prog w = .ok 3 w := by kernel_rfl
  rw [run_slice_l (P := Try.prog) (w := w) 23 a len cap (by rw [Try.underlying23]; kernel_rfl) .i64 lo (by omega) (by omega), hsz]
  simp only [Result.andThen, sliced, Int.toNat_natCast, cutE]
theorem reads_cutE {w : World} {a : Option Addr} {cap lo hi m : Nat} {l : List Ed} (h : EdR w (.slice a l.length cap) l) (h1 : lo ≤ hi) (h2 : hi ≤ l.length) (h3 : hi ≤ m) (h4 : m ≤ cap) : EdR w (cutE a lo hi m) ((l.drop lo).take (hi - lo)) := by
  obtain ⟨a', cap', e, hc, hm, ha, hel⟩ := h
  injection e with e1 _ e3
  subst e1 e3
  have hll : ((l.drop lo).take (hi - lo)).length = hi - lo := by rw [List.length_take, List.length_drop]; omega
  unfold cutE
  refine ⟨_, m - lo, by rw [hll], by rw [hll]; omega, by omega, fun hx => ?_, fun hn => ?_⟩
  · split at hx
    · omega
    · cases a with
      | none => have := ha rfl; omega
      | some p => cases hx
  · rw [hll] at hn
    obtain ⟨b, off, rfl, hlt, hcell⟩ := hel (by omega)
    refine ⟨b, off + lo * 3, by rw [if_neg (by omega), Option.map_some, addr_plus], hlt, fun i x hx j u hu => ?_⟩
    have hi2 : i < hi - lo := by
      have := (List.getElem?_eq_some_iff.1 hx).1
      rw [hll] at this
      exact this
    rw [List.getElem?_take_of_lt hi2, List.getElem?_drop] at hx
    have := hcell (lo + i) x hx j u hu
    rw [show off + lo * 3 + i * 3 + j = off + (lo + i) * 3 + j by omega]
    exact this
theorem reads_cutEF {w : World} {a : Option Addr} {cap lo : Nat} {l : List Ed} (h : EdR w (.slice a l.length cap) l) (h1 : lo ≤ l.length) : EdR w (cutE a lo l.length cap) (l.drop lo) := by
  obtain ⟨_, _, e, hc, _⟩ := id h
  injection e with _ _ e3
  subst e3
  have h2 := reads_cutE h h1 (Nat.le_refl _) hc (Nat.le_refl _)
  rwa [List.take_of_length_le (by rw [List.length_drop]; exact Nat.le_refl _)] at h2
end Go.Proofs.Ytbmkgnlfccigpab
