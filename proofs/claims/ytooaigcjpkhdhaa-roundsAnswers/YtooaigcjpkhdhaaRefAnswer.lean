/-
  Contract of the document's own Answered.
-/
import Derived.Test.YtooaigcjpkhdhaaRefStaCopy
import Derived.Test.YtooaigcjpkhdhaaRoundTell
import Derived.Test.YtooaigcjpkhdhaaRefJob
namespace Go.Proofs.Ytooaigcjpkhdhaa
set_option maxRecDepth 100000
open Go.ChangeShapes Go.WideShapes Go.ChangeAt Go.RowKit Go.Sort

set_option maxHeartbeats 4000000 in
set_option maxRecDepth 100000 in
theorem answered_any (v : Value) (es : List Ed) (n k s : Int) (T : StS) (vv vm : Value) (w : World) (h : EdR w v es) (hv : MlR w vv T.vals) (hm : LiR w vm T.mail) (hml : ∀ l ∈ T.mail, l.length ≤ 140737488355328) :
    Calls Try.prog 21 #[.agg #[.int .i64 n, v, .int .i64 k, .int .i64 s], .agg #[.int .i64 T.step, .int .i64 T.phase, .bool T.fresh, .bool T.done, vv, vm]] w (NumP w (ansE n es k s T)) := by
  have HR : Hid (EdR w v es) := h
  obtain ⟨a, cap, rfl, _, _, _, _⟩ := h
  have HCK : Hid (∀ X, EdR X (.slice a es.length cap) es → Calls Try.prog 11 #[.agg #[.int .i64 n, .slice a es.length cap, .int .i64 k, .int .i64 s]] X fun e w' => e = .returned (.int .i64 (jobE n es k s)) ∧ Below X.heap.size X w') := fun X hX => jobFault_any _ es n k s X hX
  have HV : Hid (MlR w vv T.vals) := hv
  have HM : Hid (LiR w vm T.mail) := hm
  obtain ⟨va, vc, rfl, hvc, hvm, _, _⟩ := hv
  obtain ⟨ma, mc, rfl, hmc, hmm, _⟩ := hm
  unfold maxLen at hvm hmm
  have HSM : Hid (∀ X, jobE n es k s = 0 → MlR X (.slice va T.vals.length vc) T.vals → LiR X (.slice ma T.mail.length mc) T.mail → Calls Try.prog 38 #[.agg #[.int .i64 n, .slice a es.length cap, .int .i64 k, .int .i64 s], .agg #[.int .i64 T.step, .int .i64 T.phase, .bool T.fresh, .bool T.done, .slice va T.vals.length vc, .slice ma T.mail.length mc]] X fun e w' => e = .returned (.bool (mayR n.toNat k T)) ∧ Below X.heap.size X w') := fun X hj h1 h2 => by
    obtain ⟨hf, _, _⟩ := jobE_zero hj
    obtain ⟨hn0, hn1, _, _⟩ := fault_ok hf
    obtain ⟨m, rfl⟩ : ∃ m : Nat, n = m := ⟨n.toNat, by omega⟩
    rw [Int.toNat_natCast]
    exact stateMay_any a es.length cap m k s T _ _ X h1 h2 (by omega) hml
  have HWL : Hid (jobE n es k s = 0 → mayR n.toNat k T = true → T.vals.length ≤ 200) := fun hj hm => by
    obtain ⟨hf, _, _⟩ := jobE_zero hj
    obtain ⟨hn0, hn1, _, _⟩ := fault_ok hf
    by_cases g : T.vals.length = n.toNat ∧ T.mail.length = n.toNat
    · omega
    · rw [mayR_len g] at hm; cases hm
  have HE1 : Hid (jobE n es k s ≠ 0 → ansE n es k s T = (jobE n es k s, [])) := fun h => by unfold ansE; rw [if_pos h]
  have HE2 : Hid (jobE n es k s = 0 → mayR n.toNat k T = false → ansE n es k s T = (9, [])) := fun h h2 => by unfold ansE; rw [if_neg (by simp [h]), if_pos h2]
  have HE3 : Hid (jobE n es k s = 0 → mayR n.toNat k T = true → T.done = false → ansE n es k s T = (12, [])) := fun h h2 h3 => by unfold ansE; rw [if_neg (by simp [h]), if_neg (by simp [h2]), if_pos h3]
  have HE4 : Hid (jobE n es k s = 0 → mayR n.toNat k T = true → T.done = true → ansE n es k s T = (0, T.vals.map (tellV k))) := fun h h2 h3 => by unfold ansE; rw [if_neg (by simp [h]), if_neg (by simp [h2]), if_neg (by simp [h3])]
  generalize ansE n es k s T = R at *
  generalize mayR n.toNat k T = mr at *
  clear hml
  obtain ⟨step, phase, fr, dn, vs, ms⟩ := T
  simp only at HV HM hvc hvm hmc hmm HSM HWL HE1 HE2 HE3 HE4 ⊢
  obtain ⟨W0, hW0⟩ : ∃ W0, W0 = (w.alloc (.cells #[.int .i64 n, .slice a es.length cap, .int .i64 k, .int .i64 s] 26)).alloc (.cells #[.int .i64 step, .int .i64 phase, .bool fr, .bool dn, .slice va vs.length vc, .slice ma ms.length mc] 34) := ⟨_, rfl⟩
  obtain ⟨Q0, T0, B0, s1, s2⟩ := boxes2 w #[.int .i64 n, .slice a es.length cap, .int .i64 k, .int .i64 s] #[.int .i64 step, .int .i64 phase, .bool fr, .bool dn, .slice va vs.length vc, .slice ma ms.length mc] 26 34 W0 hW0
  have BH : Hid (Below w.heap.size w W0) := B0
  have HK : Hid (∀ X, Below W0.heap.size W0 X → BX 26 X w.heap.size #[.int .i64 n, .slice a es.length cap, .int .i64 k, .int .i64 s] ∧ BX 34 X (w.heap.size + 1) #[.int .i64 step, .int .i64 phase, .bool fr, .bool dn, .slice va vs.length vc, .slice ma ms.length mc] ∧ Below w.heap.size w X) := fun X hX => ⟨Q0.below hX (by omega), T0.below hX (by omega), BH.out.trans (hX.mono (by omega))⟩
  have R0 : Hid (EdR W0 (.slice a es.length cap) es) := HR.out.below BH.out (Nat.le_refl _)
  have HVX : Hid (∀ X, Below W0.heap.size W0 X → MlR X (.slice va vs.length vc) vs ∧ LiR X (.slice ma ms.length mc) ms) := fun X hX => ⟨HV.out.below (HK.out _ hX).2.2 (Nat.le_refl _), HM.out.below (HK.out _ hX).2.2 (Nat.le_refl _)⟩
  obtain ⟨q0, q1, q2, q3⟩ := Q0.all4
  clear Q0 T0 B0
  by_cases hj : jobE n es k s = 0
  · replace HSM : Hid (∀ X, Below W0.heap.size W0 X → Calls Try.prog 38 #[.agg #[.int .i64 n, .slice a es.length cap, .int .i64 k, .int .i64 s], .agg #[.int .i64 step, .int .i64 phase, .bool fr, .bool dn, .slice va vs.length vc, .slice ma ms.length mc]] X fun e w' => e = .returned (.bool mr) ∧ Below X.heap.size X w') := fun X hX => HSM.out X hj (HVX.out X hX).1 (HVX.out X hX).2
    replace HE2 : Hid (mr = false → R = (9, [])) := HE2.out hj
    replace HE3 : Hid (mr = true → dn = false → R = (12, [])) := HE3.out hj
    replace HE4 : Hid (mr = true → dn = true → R = (0, vs.map (tellV k))) := HE4.out hj
    replace HWL : Hid (mr = true → vs.length ≤ 200) := HWL.out hj
    rw [hj] at HCK
    clear hj HE1
    go_enter Try.func21, Try.ntmps21
    go_upto_region 1 with fail
    rw [← hW0]
    clear hW0
    go_wp2_with fail
    refine (HCK.out _ R0.out).mono ?_
    rintro e w1 ⟨rfl, hb1⟩
    have A1 : Hid (Below W0.heap.size W0 w1) := hb1
    clear q0 q1 q2 q3 HCK hb1
    obtain ⟨Q1, T1, _⟩ := HK.out _ A1.out
    obtain ⟨q0, q1, q2, q3⟩ := Q1.all4
    obtain ⟨⟨c0, c1, c2, c3, c4, c5⟩, _⟩ := T1.all6
    have hs1 := A1.out.size
    clear Q1 T1
    go_wp2_with fail
    refine (HSM.out _ A1.out).mono ?_
    rintro e w2 ⟨rfl, hb2⟩
    have A2 : Hid (Below W0.heap.size W0 w2) := A1.out.trans (hb2.mono hs1)
    clear q0 q1 q2 q3 c0 c1 c2 c3 c4 c5 hb2 hs1 HSM A1
    obtain ⟨Q2, T2, hbw⟩ := HK.out _ A2.out
    obtain ⟨q0, q1, q2, q3⟩ := Q2.all4
    obtain ⟨⟨c0, c1, c2, c3, c4, c5⟩, _⟩ := T2.all6
    have BW : Hid (Below w.heap.size w w2) := hbw
    clear Q2 T2 hbw
    cases hmr : mr
    · have HP : Hid (NumP w R (.returned (.tuple #[.slice none 0 0, .int .i64 9])) w2) := by
        show NumP _ _ _ _
        rw [HE2.out hmr]
        exact NumP.no BW.out
      clear hmr
      go_wp2_with fail
      exact bodyPost_ret (v := .tuple #[.slice none 0 0, .int .i64 9]) (by simp [results, Try.results21, go_sem]) rfl HP.out
    · have hvl := HWL.out hmr
      cases hdn : dn
      · have HP : Hid (NumP w R (.returned (.tuple #[.slice none 0 0, .int .i64 12])) w2) := by
          show NumP _ _ _ _
          rw [HE3.out hmr hdn]
          exact NumP.no BW.out
        subst hdn
        clear hmr
        go_wp2_with fail
        exact bodyPost_ret (v := .tuple #[.slice none 0 0, .int .i64 12]) (by simp [results, Try.results21, go_sem]) rfl HP.out
      · have HRR : Hid (R = (0, vs.map (tellV k))) := HE4.out hmr hdn
        subst hdn
        clear hmr HE2 HE3 HE4 HWL
        go_wp2_with fail
        clear q0 q1 q2 q3 c0 c1 c2 c3 c4 c5
        go_loopw [7, 8] (fun u i wr => ∃ c : Nat, c ≤ vs.length ∧ i = .int .i64 c ∧ wr.ownsRow W0.heap.size 3 1 u ((vs.map (tellV k)).take c).length (((vs.map (tellV k)).take c).flatMap encI) ∧ Below W0.heap.size W0 wr) (fun _ i _ => vs.length - (intOf i).toNat)
        case atStart => exact ⟨0, by omega, rfl, World.ownsRow_nil _ _ _ _, A2.out⟩
        case round =>
          obtain ⟨c, hc, rfl, hown, hbel⟩ := hrel
          have OW : Hid (wr.ownsRow W0.heap.size 3 1 u7 ((vs.map (tellV k)).take c).length (((vs.map (tellV k)).take c).flatMap encI)) := hown
          have AB : Hid (Below W0.heap.size W0 wr) := hbel
          have hsr := hbel.size
          obtain ⟨ua, un, uc, rfl⟩ : ∃ a n c, u7 = .slice a n c := by
            rcases own_shapeK hown with ⟨e, _⟩ | ⟨g', c', e, _⟩
            · exact ⟨_, _, _, e⟩
            · exact ⟨_, _, _, e⟩
          obtain ⟨Q2, T2, hbw⟩ := HK.out _ AB.out
          obtain ⟨q0, q1, q2, q3⟩ := Q2.all4
          obtain ⟨⟨c0, c1, c2, c3, c4, c5⟩, _⟩ := T2.all6
          have BE : Hid (Below w.heap.size w wr) := hbw
          clear hown hbel Q2 T2 hbw
          by_cases hlt : c < vs.length
          · obtain ⟨b1, o1, cap1, e1, lt1, hv1⟩ := MlR.read (HVX.out _ AB.out).1 (by omega)
            injection e1 with e1 _ e3
            subst e1 e3
            obtain ⟨x, hx⟩ : ∃ x, vs[c]? = some x := ⟨_, List.getElem?_eq_getElem hlt⟩
            obtain ⟨d0, d1⟩ := hv1 c x hx
            have HNX : Hid ((vs.map (tellV k)).take (c + 1) = (vs.map (tellV k)).take c ++ [tellV k x]) := take_snoc (by rw [List.getElem?_map, hx]; rfl)
            have hlk := take_most (vs.map (tellV k)) c
            have p0 : (0 : Int) ≤ (c : Int) := by omega
            have p1 : (c : Int) < (vs.length : Int) := by omega
            clear hv1 hx
            generalize (vs.map (tellV k)).take c = f at *
            by_cases hk3 : k = 3
            · have ht : tellV k x = x.2 := by unfold tellV; rw [if_pos hk3]
              rw [ht] at HNX
              have t3 : (k == 3) = true := by simpa using hk3
              clear ht hk3
              go_wp2_with (at_builtin; refine wpList_append_newK kI rfl _ _ rfl W0.heap.size _ f rfl (OW.out.alloc _) _ x.2 rfl #[.int .i64 x.2] rfl (0, 0) (heap_alloc_new _ _) (by simp only [kI]; omega) (by unfold maxLen; omega) (by simp; omega) ?_)
              intro g1 k1 w3 ho2 hb2 _
              have O2 : Hid (w3.ownsRow W0.heap.size 3 1 (.slice (some ⟨g1, 0, none⟩) (f.length + 1) k1) ((vs.map (tellV k)).take (c + 1)).length (((vs.map (tellV k)).take (c + 1)).flatMap encI)) := by
                show World.ownsRow _ _ _ _ _ _ _
                rw [HNX.out, flat_snoc, List.length_append]; exact ho2
              have B2 : Hid (Below W0.heap.size W0 w3) := (AB.out.alloc hsr _).trans hb2
              clear ho2 hb2
              go_wp2_with fail
              go_roundw
              case rel => exact ⟨c + 1, by omega, by go_num, O2.out, B2.out⟩
              case measure => simp [intOf]; omega
            · have ht : tellV k x = x.1 := by unfold tellV; rw [if_neg hk3]
              rw [ht] at HNX
              have t3 : (k == 3) = false := by simpa using hk3
              clear ht
              go_wp2_with (at_builtin; refine wpList_append_newK kI rfl _ _ rfl W0.heap.size _ f rfl (OW.out.alloc _) _ x.1 rfl #[.int .i64 x.1] rfl (0, 0) (heap_alloc_new _ _) (by simp only [kI]; omega) (by unfold maxLen; omega) (by simp; omega) ?_)
              intro g1 k1 w3 ho2 hb2 _
              have O2 : Hid (w3.ownsRow W0.heap.size 3 1 (.slice (some ⟨g1, 0, none⟩) (f.length + 1) k1) ((vs.map (tellV k)).take (c + 1)).length (((vs.map (tellV k)).take (c + 1)).flatMap encI)) := by
                show World.ownsRow _ _ _ _ _ _ _
                rw [HNX.out, flat_snoc, List.length_append]; exact ho2
              have B2 : Hid (Below W0.heap.size W0 w3) := (AB.out.alloc hsr _).trans hb2
              clear ho2 hb2
              go_wp2_with fail
              go_roundw
              case rel => exact ⟨c + 1, by omega, by go_num, O2.out, B2.out⟩
              case measure => simp [intOf]; omega
          · have ec : c = vs.length := by omega
            subst ec
            have OE : Hid (wr.ownsRow w.heap.size 3 1 (.slice ua un uc) (vs.map (tellV k)).length ((vs.map (tellV k)).flatMap encI)) := by
              have := OW.out
              rw [List.take_of_length_le (by simp)] at this
              exact own_lower this (by omega)
            have HP : Hid (NumP w R (.returned (.tuple #[.slice ua un uc, .int .i64 0])) wr) := by
              show NumP _ _ _ _
              rw [HRR.out]
              exact ⟨_, rfl, OE.out, BE.out⟩
            clear hc hlt
            go_wp2_with fail
            exact bodyPost_ret (v := .tuple #[.slice ua un uc, .int .i64 0]) (by simp [results, Try.results21, go_sem]) rfl HP.out
  · have HP : Hid (∀ w', Below w.heap.size w w' → NumP w R (.returned (.tuple #[.slice none 0 0, .int .i64 (jobE n es k s)])) w') := fun w' hb => by
      rw [HE1.out hj]
      exact NumP.no hb
    generalize jobE n es k s = je at *
    have t0 : (je != 0) = true := by simpa using hj
    clear hj HE1 HE2 HE3 HE4 HSM HWL
    go_enter Try.func21, Try.ntmps21
    go_upto_region 1 with fail
    rw [← hW0]
    clear hW0
    go_wp2_with fail
    refine (HCK.out _ R0.out).mono ?_
    rintro e w1 ⟨rfl, hb1⟩
    have BW : Hid (Below w.heap.size w w1) := (HK.out _ hb1).2.2
    clear hb1 q0 q1 q2 q3 HCK
    go_wp2_with fail
    exact bodyPost_ret (v := .tuple #[.slice none 0 0, .int .i64 je]) (by simp [results, Try.results21, go_sem]) rfl (HP.out _ BW.out)
end Go.Proofs.Ytooaigcjpkhdhaa
