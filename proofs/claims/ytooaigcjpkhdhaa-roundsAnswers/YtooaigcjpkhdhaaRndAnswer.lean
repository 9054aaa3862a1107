/-
  Contract of rounds.Answer.
-/
import Derived.Test.YtooaigcjpkhdhaaRndState
import Derived.Test.YtooaigcjpkhdhaaNumsMake
import Derived.Test.YtooaigcjpkhdhaaIntRow
import Derived.Test.YtooaigcjpkhdhaaStaMem
namespace Go.Proofs.Ytooaigcjpkhdhaa
set_option maxRecDepth 100000
open Go.ChangeShapes Go.WideShapes Go.ChangeAt Go.RowKit

theorem ansE_not {n k s : Int} {es : List Ed} {T : StS} (h : staE n es k s T ≠ 0) : ansE n es k s T = (staE n es k s T, []) := by
  unfold ansE
  by_cases h1 : jobE n es k s = 0
  · rw [if_neg (by simp [h1])]
    have e : staE n es k s T = if mayR n.toNat k T then 0 else 9 := by unfold staE; rw [if_neg (by simp [h1])]
    cases h2 : mayR n.toNat k T
    · rw [e, h2]; rfl
    · rw [e, h2] at h; exact absurd rfl h
  · have e : staE n es k s T = jobE n es k s := by unfold staE; rw [if_pos h1]
    rw [if_pos h1, e]
theorem staE_fine {n k s : Int} {es : List Ed} {T : StS} (h : staE n es k s T = 0) : jobE n es k s = 0 ∧ mayR n.toNat k T = true := by
  unfold staE at h
  by_cases h1 : jobE n es k s = 0
  · rw [if_neg (by simp [h1])] at h
    refine ⟨h1, ?_⟩
    cases h2 : mayR n.toNat k T
    · rw [h2] at h; simp at h
    · rfl
  · rw [if_pos h1] at h; exact absurd h h1
/-- The numbers, as far as they are told. -/
def anP (k : Int) (vs : List Ml) (c : Nat) : List Int := (vs.map (tellV k)).take c ++ List.replicate (vs.length - c) 0
theorem anP_len {k : Int} {vs : List Ml} {c : Nat} (h : c ≤ vs.length) : (anP k vs c).length = vs.length := by simp [anP]; omega
theorem anP_zero (k : Int) (vs : List Ml) : anP k vs 0 = List.replicate vs.length 0 := by simp [anP]
theorem anP_all (k : Int) (vs : List Ml) : anP k vs vs.length = vs.map (tellV k) := by
  unfold anP
  rw [List.take_of_length_le (by simp)]
  simp
theorem anP_set {k : Int} {vs : List Ml} {c : Nat} {x : Ml} (h : vs[c]? = some x) : anP k vs (c + 1) = (anP k vs c).set c (tellV k x) := by
  have hc := (List.getElem?_eq_some_iff.1 h).1
  unfold anP
  rw [take_snoc (show (vs.map (tellV k))[c]? = some (tellV k x) by rw [List.getElem?_map, h]; rfl), List.append_assoc, show vs.length - c = (vs.length - (c + 1)) + 1 by omega, List.replicate_succ, List.set_append_right _ _ (by simp; omega)]
  simp [Nat.min_eq_left (Nat.le_of_lt hc)]

set_option maxHeartbeats 4000000 in
set_option maxRecDepth 100000 in
theorem rAnswer_any (v : Value) (es : List Ed) (n k s : Int) (T : StS) (vv vm : Value) (w : World) (h : EdR w v es) (hv : MlR w vv T.vals) (hm : LiR w vm T.mail) :
    Calls Try.prog 20 #[.agg #[.int .i64 n, v, .int .i64 k, .int .i64 s], .agg #[.int .i64 T.step, .int .i64 T.phase, .bool T.fresh, .bool T.done, vv, vm]] w (NumP w (ansE n es k s T)) := by
  have HR : Hid (EdR w v es) := h
  obtain ⟨a, cap, rfl, _, _, _, _⟩ := h
  have HV : Hid (MlR w vv T.vals) := hv
  have HM : Hid (LiR w vm T.mail) := hm
  obtain ⟨va, vc, rfl, hvc, hvm, _, _⟩ := hv
  obtain ⟨ma, mc, rfl, hmc, hmm, _⟩ := hm
  unfold maxLen at hvm hmm
  have CS : Hid (∀ X, EdR X (.slice a es.length cap) es → MlR X (.slice va T.vals.length vc) T.vals → LiR X (.slice ma T.mail.length mc) T.mail → Calls Try.prog 36 #[.agg #[.int .i64 n, .slice a es.length cap, .int .i64 k, .int .i64 s], .agg #[.int .i64 T.step, .int .i64 T.phase, .bool T.fresh, .bool T.done, .slice va T.vals.length vc, .slice ma T.mail.length mc]] X fun e w' => e = .returned (.int .i64 (staE n es k s T)) ∧ Below X.heap.size X w') := fun X h1 h2 h3 => rState_any _ es n k s T _ _ X h1 h2 h3
  have HNE : Hid (staE n es k s T ≠ 0 → ansE n es k s T = (staE n es k s T, [])) := ansE_not
  have HWT : Hid (staE n es k s T = 0 → T.done = false → ansE n es k s T = (12, [])) := fun h h2 => by
    obtain ⟨h3, h4⟩ := staE_fine h
    unfold ansE; rw [if_neg (by simp [h3]), if_neg (by simp [h4]), if_pos h2]
  have HYE : Hid (staE n es k s T = 0 → T.done = true → ansE n es k s T = (0, T.vals.map (tellV k))) := fun h h2 => by
    obtain ⟨h3, h4⟩ := staE_fine h
    unfold ansE; rw [if_neg (by simp [h3]), if_neg (by simp [h4]), if_neg (by simp [h2])]
  have HSZ : Hid (staE n es k s T = 0 → T.vals.length ≤ 200) := fun h => by
    obtain ⟨h3, h4⟩ := staE_fine h
    have h5 := (mayR_size h4).1
    have h6 := fault_ok (jobE_zero h3).1
    omega
  generalize ansE n es k s T = R at *
  generalize staE n es k s T = se at *
  obtain ⟨step, phase, fr, dn, vs, ms⟩ := T
  simp only at HV HM hvc hvm hmc hmm CS HWT HYE HSZ ⊢
  obtain ⟨W0, hW0⟩ : ∃ W0, W0 = (w.alloc (.cells #[.int .i64 n, .slice a es.length cap, .int .i64 k, .int .i64 s] 26)).alloc (.cells #[.int .i64 step, .int .i64 phase, .bool fr, .bool dn, .slice va vs.length vc, .slice ma ms.length mc] 34) := ⟨_, rfl⟩
  obtain ⟨Q0, T0, B0, s1, s2⟩ := boxes2 w #[.int .i64 n, .slice a es.length cap, .int .i64 k, .int .i64 s] #[.int .i64 step, .int .i64 phase, .bool fr, .bool dn, .slice va vs.length vc, .slice ma ms.length mc] 26 34 W0 hW0
  have BH : Hid (Below w.heap.size w W0) := B0
  have HK : Hid (∀ X, Below W0.heap.size W0 X → BX 26 X w.heap.size #[.int .i64 n, .slice a es.length cap, .int .i64 k, .int .i64 s] ∧ BX 34 X (w.heap.size + 1) #[.int .i64 step, .int .i64 phase, .bool fr, .bool dn, .slice va vs.length vc, .slice ma ms.length mc] ∧ Below w.heap.size w X) := fun X hX => ⟨Q0.below hX (by omega), T0.below hX (by omega), BH.out.trans (hX.mono (by omega))⟩
  have R0 : Hid (∀ X, Below W0.heap.size W0 X → EdR X (.slice a es.length cap) es ∧ MlR X (.slice va vs.length vc) vs ∧ LiR X (.slice ma ms.length mc) ms) := fun X hX => ⟨HR.out.below (HK.out _ hX).2.2 (Nat.le_refl _), HV.out.below (HK.out _ hX).2.2 (Nat.le_refl _), HM.out.below (HK.out _ hX).2.2 (Nat.le_refl _)⟩
  have A0 : Hid (Below W0.heap.size W0 W0) := Below.refl _ _
  have CS0 : Hid (∀ X, Below W0.heap.size W0 X → _) := fun X hX => CS.out X (R0.out X hX).1 (R0.out X hX).2.1 (R0.out X hX).2.2
  obtain ⟨q0, q1, q2, q3⟩ := Q0.all4
  obtain ⟨⟨c0, c1, c2, c3, c4, c5⟩, _⟩ := T0.all6
  clear Q0 T0 B0 CS
  by_cases h0 : se = 0
  · have hsz := HSZ.out h0
    have HW2 : Hid (dn = false → R = (12, [])) := HWT.out h0
    have HY2 : Hid (dn = true → R = (0, vs.map (tellV k))) := HYE.out h0
    rw [h0] at CS0
    clear h0 HNE HWT HYE HSZ
    go_enter Try.func20, Try.ntmps20
    go_upto_region 1 with fail
    rw [← hW0]
    clear hW0
    go_wp2_with fail
    refine (CS0.out _ A0.out).mono ?_
    rintro e w1 ⟨rfl, hb1⟩
    have A1 : Hid (Below W0.heap.size W0 w1) := hb1
    obtain ⟨Q1, T1, hbw⟩ := HK.out _ hb1
    have BW : Hid (Below w.heap.size w w1) := hbw
    clear q0 q1 q2 q3 c0 c1 c2 c3 c4 c5 hb1 CS0
    obtain ⟨q0, q1, q2, q3⟩ := Q1.all4
    obtain ⟨⟨c0, c1, c2, c3, c4, c5⟩, _⟩ := T1.all6
    clear Q1 T1 hbw
    cases dn
    · have HP : Hid (NumP w R (.returned (.tuple #[.slice none 0 0, .int .i64 12])) w1) := by
        show NumP _ _ _ _
        rw [HW2.out rfl]
        exact NumP.no BW.out
      go_wp2_with fail
      exact bodyPost_ret (v := .tuple #[.slice none 0 0, .int .i64 12]) (by simp [results, Try.results20, go_sem]) rfl HP.out
    · have HRR : Hid (R = (0, vs.map (tellV k))) := HY2.out rfl
      obtain ⟨w2, hmk, hon, hb2⟩ := make_ints w1 vs.length (by omega)
      have A2 : Hid (Below W0.heap.size W0 w2) := A1.out.trans (hb2.mono A1.out.size)
      have ON : Hid (w2.ownsRow W0.heap.size 3 1 (.slice (some ⟨w1.heap.size, 0, none⟩) vs.length vs.length) vs.length ((anP k vs 0).flatMap encI)) := by
        show World.ownsRow _ _ _ _ _ _ _
        rw [anP_zero]; exact own_lower hon A1.out.size
      obtain ⟨_, T2, _⟩ := HK.out _ A2.out
      obtain ⟨⟨m0, m1, m2, m3, m4, m5⟩, _⟩ := T2.all6
      generalize hg0 : w1.heap.size = g at *
      clear HW2 HY2 hon hb2 T2 hg0
      go_wp2_with fail
      clear q0 q1 q2 q3 c0 c1 c2 c3 c4 c5 m0 m1 m2 m3 m4 m5 hmk
      go_loopw [26] (fun i wr => ∃ c : Nat, c ≤ vs.length ∧ i = .int .i64 c ∧ wr.ownsRow W0.heap.size 3 1 (.slice (some ⟨g, 0, none⟩) vs.length vs.length) vs.length ((anP k vs c).flatMap encI) ∧ Below W0.heap.size W0 wr) (fun i _ => vs.length - (intOf i).toNat)
      case atStart => exact ⟨0, by omega, rfl, ON.out, A2.out⟩
      case round =>
        obtain ⟨c, hc, rfl, hown, hbel⟩ := hrel
        have OW : Hid (wr.ownsRow W0.heap.size 3 1 (.slice (some ⟨g, 0, none⟩) vs.length vs.length) vs.length ((anP k vs c).flatMap encI)) := hown
        have AB : Hid (Below W0.heap.size W0 wr) := hbel
        have hsr := hbel.size
        clear hown hbel ON A2 A1
        by_cases hlt : c < vs.length
        · obtain ⟨b1, o1, cap1, e1, lt1, hv1⟩ := MlR.read (R0.out _ AB.out).2.1 (by omega)
          injection e1 with e1 _ e3
          subst e1 e3
          obtain ⟨x, hx⟩ := getX hlt
          obtain ⟨d0, d1⟩ := hv1 c x hx
          have hgl := OW.out.lt g rfl
          have HNX : Hid (anP k vs (c + 1) = (anP k vs c).set c (tellV k x)) := anP_set hx
          obtain ⟨y, hy⟩ := getX (show c < (anP k vs c).length by rw [anP_len hc]; exact hlt)
          have p0 : (0 : Int) ≤ (c : Int) := by omega
          have p1 : (c : Int) < (vs.length : Int) := by omega
          obtain ⟨w3, hw3⟩ : ∃ w3, w3 = wr.alloc (.cells #[.int .i64 x.1, .int .i64 x.2] 59) := ⟨_, rfl⟩
          have X3 : BX 59 w3 wr.heap.size #[.int .i64 x.1, .int .i64 x.2] := by rw [hw3]; exact BX.new _ _ _
          have ba : Below wr.heap.size wr w3 := by rw [hw3]; exact below_alloc _ _
          have A3 : Hid (Below W0.heap.size W0 w3) := AB.out.trans (ba.mono hsr)
          have O3 : Hid (w3.ownsRow W0.heap.size 3 1 (.slice (some ⟨g, 0, none⟩) vs.length vs.length) vs.length ((anP k vs c).flatMap encI)) := own_below OW.out ba (Nat.le_refl _)
          obtain ⟨z0, z1, _⟩ := X3.all2
          have k0 := own_atN O3.out hy
          have f0 := frozenK O3.out c
          obtain ⟨w4, hw4⟩ : ∃ w4, w4 = w3.setCell ⟨g, c, none⟩ (.int .i64 x.1) := ⟨_, rfl⟩
          have kp4 : Kept (fun k => k = g) w3 w4 := by rw [hw4]; exact Kept.box _ _ _ _
          have A4 : Hid (Below W0.heap.size W0 w4) := by show Below _ _ _; rw [hw4]; exact A3.out.setCell (p := ⟨g, c, none⟩) hgl.1 _
          have O4 : Hid (w4.ownsRow W0.heap.size 3 1 (.slice (some ⟨g, 0, none⟩) vs.length vs.length) vs.length (((anP k vs c).set c x.1).flatMap encI)) := by show World.ownsRow _ _ _ _ _ _ _; rw [hw4]; exact own_setN O3.out
          have X4 := X3.kept kp4 (by omega)
          obtain ⟨y0, y1, _⟩ := X4.all2
          have HW4 : Hid (w4 = w3.setCell ⟨g, c, none⟩ (.int .i64 x.1)) := hw4
          clear hv1 hx hy hw4 X3 X4
          go_upto_region 10 with fail
          rw [← hw3]
          clear hw3
          go_upto_region 11 with fail
          rw [← HW4.out]
          clear HW4 z0 z1 k0 f0 d0 d1 kp4 ba
          obtain ⟨Q4, _, _⟩ := HK.out _ A4.out
          obtain ⟨q0, q1, q2, q3⟩ := Q4.all4
          clear Q4
          by_cases hk3 : k = 3
          · have ht : tellV k x = x.2 := by unfold tellV; rw [if_pos hk3]
            rw [ht] at HNX
            have t3 : (k == 3) = true := by simpa using hk3
            have hcl : c < ((anP k vs c).set c x.1).length := by rw [List.length_set, anP_len hc]; exact hlt
            have k0 := own_atN O4.out (List.getElem?_eq_getElem hcl)
            have f0 := frozenK O4.out c
            have O5 : Hid ((w4.setCell ⟨g, c, none⟩ (.int .i64 x.2)).ownsRow W0.heap.size 3 1 (.slice (some ⟨g, 0, none⟩) vs.length vs.length) vs.length ((anP k vs (c + 1)).flatMap encI)) := by
              show World.ownsRow _ _ _ _ _ _ _
              have := own_setN (j := c) (x := x.2) O4.out
              rw [List.set_set] at this
              rw [HNX.out]; exact this
            have A5 : Hid (Below W0.heap.size W0 (w4.setCell ⟨g, c, none⟩ (.int .i64 x.2))) := A4.out.setCell (p := ⟨g, c, none⟩) hgl.1 _
            clear ht hk3
            go_wp2_with fail
            go_roundw
            case rel => exact ⟨c + 1, by omega, by go_num, O5.out, A5.out⟩
            case measure => simp [intOf]; omega
          · have ht : tellV k x = x.1 := by unfold tellV; rw [if_neg hk3]
            rw [ht] at HNX
            have t3 : (k == 3) = false := by simpa using hk3
            have O5 : Hid (w4.ownsRow W0.heap.size 3 1 (.slice (some ⟨g, 0, none⟩) vs.length vs.length) vs.length ((anP k vs (c + 1)).flatMap encI)) := by
              show World.ownsRow _ _ _ _ _ _ _
              rw [HNX.out]; exact O4.out
            clear ht hk3
            go_wp2_with fail
            go_roundw
            case rel => exact ⟨c + 1, by omega, by go_num, O5.out, A4.out⟩
            case measure => simp [intOf]; omega
        · have ec : c = vs.length := by omega
          have OE : Hid (wr.ownsRow w.heap.size 3 1 (.slice (some ⟨g, 0, none⟩) vs.length vs.length) (vs.map (tellV k)).length ((vs.map (tellV k)).flatMap encI)) := by
            have := OW.out
            rw [ec, anP_all] at this
            rw [List.length_map]
            exact own_lower this (by omega)
          have BE : Hid (Below w.heap.size w wr) := (HK.out _ AB.out).2.2
          have HP : Hid (NumP w R (.returned (.tuple #[.slice (some ⟨g, 0, none⟩) vs.length vs.length, .int .i64 0])) wr) := by
            show NumP _ _ _ _
            rw [HRR.out]
            exact ⟨_, rfl, OE.out, BE.out⟩
          clear ec
          go_wp2_with fail
          exact bodyPost_ret (v := .tuple #[.slice (some ⟨g, 0, none⟩) vs.length vs.length, .int .i64 0]) (by simp [results, Try.results20, go_sem]) rfl HP.out
  · have HRE : Hid (R = (se, [])) := HNE.out h0
    have t0 : (se != 0) = true := by simpa using h0
    clear h0 HNE HWT HYE HSZ
    go_enter Try.func20, Try.ntmps20
    go_upto_region 1 with fail
    rw [← hW0]
    clear hW0
    go_wp2_with fail
    refine (CS0.out _ A0.out).mono ?_
    rintro e w1 ⟨rfl, hb1⟩
    obtain ⟨_, _, b1⟩ := HK.out _ hb1
    have HP : Hid (NumP w R (.returned (.tuple #[.slice none 0 0, .int .i64 se])) w1) := by
      show NumP _ _ _ _
      rw [HRE.out]
      exact NumP.no b1
    clear hb1 q0 q1 q2 q3 c0 c1 c2 c3 c4 c5 CS0 b1
    go_wp2_with fail
    exact bodyPost_ret (v := .tuple #[.slice none 0 0, .int .i64 se]) (by simp [results, Try.results20, go_sem]) rfl HP.out
end Go.Proofs.Ytooaigcjpkhdhaa
