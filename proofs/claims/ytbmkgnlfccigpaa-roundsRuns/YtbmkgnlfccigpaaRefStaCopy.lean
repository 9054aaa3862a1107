/-
  Contract of the document's own StateCopy.
-/
import Derived.Test.YtbmkgnlfccigpaaRefStaMay
import Derived.Test.YtbmkgnlfccigpaaIntRow
namespace Go.Proofs.Ytbmkgnlfccigpaa
set_option maxRecDepth 100000
open Go.ChangeShapes Go.WideShapes Go.ChangeAt Go.RowKit Go.Sort

theorem take_most {α : Type} (l : List α) (k : Nat) : (l.take k).length ≤ k := by rw [List.length_take]; omega

set_option maxHeartbeats 4000000 in
set_option maxRecDepth 100000 in
theorem stateCopy_any (T : StS) (vv vm : Value) (w : World) (hv : MlR w vv T.vals) (hm : LiR w vm T.mail) (hb1 : T.vals.length * 16 ≤ 140737488355328) (hb2 : T.mail.length * 24 ≤ 140737488355328) (hb3 : ∀ l ∈ T.mail, l.length * 8 ≤ 140737488355328) :
    Calls Try.prog 24 #[.agg #[.int .i64 T.step, .int .i64 T.phase, .bool T.fresh, .bool T.done, vv, vm]] w fun e w' => ∃ v1 v2, e = .returned (.agg #[.int .i64 T.step, .int .i64 T.phase, .bool T.fresh, .bool T.done, v1, v2]) ∧ w'.ownsRow w.heap.size 59 2 v1 T.vals.length (T.vals.flatMap encM) ∧ OwnLi w' w.heap.size v2 T.mail ∧ Below w.heap.size w w' := by
  obtain ⟨step, phase, fr, dn, vs, ms⟩ := T
  simp only at hv hm hb1 hb2 hb3 ⊢
  have HML : Hid (∀ l ∈ ms, l.length * 8 ≤ 140737488355328) := hb3
  clear hb3
  have HV : Hid (MlR w vv vs) := hv
  have HM : Hid (LiR w vm ms) := hm
  obtain ⟨va, vc, rfl, hvc, hvm, _, _⟩ := hv
  obtain ⟨ma, mc, rfl, hmc, hmm, _⟩ := hm
  unfold maxLen at hvm hmm
  obtain ⟨W0, hW0⟩ : ∃ W0, W0 = (w.alloc (.cells #[.int .i64 step, .int .i64 phase, .bool fr, .bool dn, .slice va vs.length vc, .slice ma ms.length mc] 30)).alloc (.cells #[.int .i64 0, .int .i64 0, .bool false, .bool false, .slice none 0 0, .slice none 0 0] 30) := ⟨_, rfl⟩
  obtain ⟨Q0, T0, B0, s1, s2⟩ := boxes2 w #[.int .i64 step, .int .i64 phase, .bool fr, .bool dn, .slice va vs.length vc, .slice ma ms.length mc] #[.int .i64 0, .int .i64 0, .bool false, .bool false, .slice none 0 0, .slice none 0 0] 30 30 W0 hW0
  have BH : Hid (Below w.heap.size w W0) := B0
  have HK : Hid (∀ X, Below W0.heap.size W0 X → BX 30 X w.heap.size #[.int .i64 step, .int .i64 phase, .bool fr, .bool dn, .slice va vs.length vc, .slice ma ms.length mc] ∧ BX 30 X (w.heap.size + 1) #[.int .i64 0, .int .i64 0, .bool false, .bool false, .slice none 0 0, .slice none 0 0] ∧ Below w.heap.size w X) := fun X hX => ⟨Q0.below hX (by omega), T0.below hX (by omega), BH.out.trans (hX.mono (by omega))⟩
  have HVX : Hid (∀ X, Below W0.heap.size W0 X → MlR X (.slice va vs.length vc) vs ∧ LiR X (.slice ma ms.length mc) ms) := fun X hX => ⟨HV.out.below (HK.out _ hX).2.2 (Nat.le_refl _), HM.out.below (HK.out _ hX).2.2 (Nat.le_refl _)⟩
  clear Q0 T0 B0
  go_enter Try.func24, Try.ntmps24
  go_upto_region 1 with fail
  rw [← hW0]
  clear hW0
  go_wp2_with fail
  go_loopw [3, 5] (fun u i wr => ∃ k : Nat, k ≤ vs.length ∧ i = .int .i64 k ∧ wr.ownsRow W0.heap.size 59 2 u (vs.take k).length ((vs.take k).flatMap encM) ∧ Below W0.heap.size W0 wr) (fun _ i _ => vs.length - (intOf i).toNat)
  case atStart => exact ⟨0, by omega, rfl, World.ownsRow_nil _ _ _ _, Below.refl _ _⟩
  case round =>
    obtain ⟨k, hk, rfl, hown, hbel⟩ := hrel
    have OW : Hid (wr.ownsRow W0.heap.size 59 2 u3 (vs.take k).length ((vs.take k).flatMap encM)) := hown
    have AB : Hid (Below W0.heap.size W0 wr) := hbel
    have hsr := hbel.size
    obtain ⟨ua, un, uc, rfl⟩ : ∃ a n c, u3 = .slice a n c := by
      rcases own_shapeK hown with ⟨e, _⟩ | ⟨g', c', e, _⟩
      · exact ⟨_, _, _, e⟩
      · exact ⟨_, _, _, e⟩
    obtain ⟨Q1, _, _⟩ := HK.out _ hbel
    obtain ⟨⟨c0, c1, c2, c3, c4, c5⟩, _⟩ := Q1.all6
    clear hown hbel Q1
    by_cases hlt : k < vs.length
    · obtain ⟨b1, o1, cap1, e1, lt1, hv1⟩ := MlR.read (HVX.out _ AB.out).1 (by omega)
      injection e1 with e1 _ e3
      subst e1 e3
      obtain ⟨x, hx⟩ : ∃ x, vs[k]? = some x := ⟨_, List.getElem?_eq_getElem hlt⟩
      obtain ⟨d0, d1⟩ := hv1 k x hx
      have HNX : Hid (vs.take (k + 1) = vs.take k ++ [x]) := take_snoc hx
      have hlk := take_most vs k
      have p0 : (0 : Int) ≤ (k : Int) := by omega
      have p1 : (k : Int) < (vs.length : Int) := by omega
      clear hv1 hx
      generalize vs.take k = f at *
      go_wp2_with (at_builtin; refine wpList_append_newK kV rfl _ _ rfl W0.heap.size _ f rfl (OW.out.alloc _) _ x rfl #[.int .i64 x.1, .int .i64 x.2] rfl (0, 0) (heap_alloc_new _ _) (by simp only [kV]; omega) (by unfold maxLen; omega) (by simp; omega) ?_)
      intro g1 k1 w2 ho2 hb2 _
      have O2 : Hid (w2.ownsRow W0.heap.size 59 2 (.slice (some ⟨g1, 0, none⟩) (f.length + 1) k1) (vs.take (k + 1)).length ((vs.take (k + 1)).flatMap encM)) := by
        show World.ownsRow _ _ _ _ _ _ _
        rw [HNX.out, flat_snoc, List.length_append]; exact ho2
      have B2 : Hid (Below W0.heap.size W0 w2) := (AB.out.alloc hsr _).trans hb2
      clear ho2 hb2
      go_wp2_with fail
      go_roundw
      case rel => exact ⟨k + 1, by omega, by go_num, O2.out, B2.out⟩
      case measure => simp [intOf]; omega
    · have ek : k = vs.length := by omega
      subst ek
      rw [List.take_length] at OW
      clear hk hlt
      go_wp2_with fail
      have VO : Hid (wr.ownsRow W0.heap.size 59 2 (.slice ua un uc) vs.length (vs.flatMap encM)) := OW.out
      have A1 : Hid (Below W0.heap.size W0 wr) := AB.out
      have HWS : Hid (W0.heap.size ≤ wr.heap.size) := hsr
      clear OW AB c0 c1 c2 c3 c4 c5 hsr
      generalize wr = WA at *
      clear wr
      go_loopw [4, 6] (fun u i wr => ∃ k : Nat, k ≤ ms.length ∧ i = .int .i64 k ∧ OwnLi wr WA.heap.size u (ms.take k) ∧ Below WA.heap.size WA wr) (fun _ i _ => ms.length - (intOf i).toNat)
      case atStart => exact ⟨0, by omega, rfl, OwnLi.nil _ _, Below.refl _ _⟩
      case round =>
        obtain ⟨k, hk, rfl, hown, hbel⟩ := hrel
        have ML : Hid (OwnLi wr WA.heap.size u4 (ms.take k)) := hown
        have A2 : Hid (Below WA.heap.size WA wr) := hbel
        have A3 : Hid (Below W0.heap.size W0 wr) := A1.out.trans (hbel.mono HWS.out)
        obtain ⟨xa, xc, rfl⟩ := hown.shape
        obtain ⟨Q1, T1, hbw⟩ := HK.out _ A3.out
        obtain ⟨⟨c0, c1, c2, c3, c4, c5⟩, f0, f1, f2, f3, f4, f5⟩ := Q1.all6
        have hsw := hbel.size
        clear hown hbel
        by_cases hlt : k < ms.length
        · obtain ⟨b2, o2, cap2, e1, lt2, _, _, hv2⟩ := LiR.at (HVX.out _ A3.out).2 (by omega)
          injection e1 with e1 _ e3
          subst e1 e3
          obtain ⟨l, hl⟩ : ∃ l, ms[k]? = some l := ⟨_, List.getElem?_eq_getElem hlt⟩
          obtain ⟨u, hu, RI⟩ := hv2 k l hl
          have HCU : Hid (∀ X, Below wr.heap.size wr X → X.cell? ⟨b2, o2 + k, none⟩ = some u ∧ InR X u l) := fun X hX => ⟨(hX.cell (p := ⟨b2, o2 + k, none⟩) lt2).trans hu, RI.below hX (Nat.le_refl _)⟩
          have HNX : Hid (ms.take (k + 1) = ms.take k ++ [l]) := take_snoc hl
          have hlk := take_most ms k
          have hll := HML.out l (List.mem_of_getElem? hl)
          have p0 : (0 : Int) ≤ (k : Int) := by omega
          have p1 : (k : Int) < (ms.length : Int) := by omega
          obtain ⟨la, lc, rfl, hlc, hlm2, _, _⟩ := RI
          unfold maxLen at hlm2
          clear hv2 hl Q1 T1 hbw hu
          have A4 : Hid (Below WA.heap.size WA wr) := A2.out
          have HWB : Hid (WA.heap.size ≤ wr.heap.size) := hsw
          generalize ms.take k = f at *
          go_wp2_with fail
          clear c0 c1 c2 c3 c4 c5 f0 f1 f2 f3 f4 f5
          generalize wr = WB at *
          clear wr
          go_loopw [7, 8] (fun u i wr => ∃ c : Nat, c ≤ l.length ∧ i = .int .i64 c ∧ wr.ownsRow WB.heap.size 3 1 u (l.take c).length ((l.take c).flatMap encI) ∧ Below WB.heap.size WB wr) (fun _ i _ => l.length - (intOf i).toNat)
          case atStart => exact ⟨0, by omega, rfl, World.ownsRow_nil _ _ _ _, Below.refl _ _⟩
          case round =>
            obtain ⟨c, hc, rfl, hown, hbel⟩ := hrel
            have OW : Hid (wr.ownsRow WB.heap.size 3 1 u7 (l.take c).length ((l.take c).flatMap encI)) := hown
            have A5 : Hid (Below WB.heap.size WB wr) := hbel
            have A6 : Hid (Below W0.heap.size W0 wr) := A3.out.trans (hbel.mono (by have := HWS.out; have := HWB.out; omega))
            have hsr := hbel.size
            obtain ⟨ya, yn, yc, rfl⟩ : ∃ a n c, u7 = .slice a n c := by
              rcases own_shapeK hown with ⟨e, _⟩ | ⟨g', c', e, _⟩
              · exact ⟨_, _, _, e⟩
              · exact ⟨_, _, _, e⟩
            obtain ⟨Q1, T1, hbw⟩ := HK.out _ A6.out
            obtain ⟨⟨c0, c1, c2, c3, c4, c5⟩, f0, f1, f2, f3, f4, f5⟩ := Q1.all6
            obtain ⟨hu, RI⟩ := HCU.out _ hbel
            clear hown hbel Q1 T1 hbw
            by_cases hlc2 : c < l.length
            · obtain ⟨b4, o4, cap4, e1, _, _, lt4, hv4⟩ := InR.at RI (by omega)
              injection e1 with e1 _ e3
              subst e1 e3
              obtain ⟨y, hy⟩ : ∃ y, l[c]? = some y := ⟨_, List.getElem?_eq_getElem hlc2⟩
              have d0 := hv4 c y hy
              have HNY : Hid (l.take (c + 1) = l.take c ++ [y]) := take_snoc hy
              have hlk2 := take_most l c
              have r0 : (0 : Int) ≤ (c : Int) := by omega
              have r1 : (c : Int) < (l.length : Int) := by omega
              clear hv4 hy RI
              generalize l.take c = h at *
              go_wp2_with (at_builtin; refine wpList_append_newK kI rfl _ _ rfl WB.heap.size _ h rfl (OW.out.alloc _) _ y rfl #[.int .i64 y] rfl (0, 0) (heap_alloc_new _ _) (by simp only [kI]; omega) (by unfold maxLen; omega) (by simp; omega) ?_)
              intro g1 k1 w2 ho2 hb2 _
              have O2 : Hid (w2.ownsRow WB.heap.size 3 1 (.slice (some ⟨g1, 0, none⟩) (h.length + 1) k1) (l.take (c + 1)).length ((l.take (c + 1)).flatMap encI)) := by
                show World.ownsRow _ _ _ _ _ _ _
                rw [HNY.out, flat_snoc, List.length_append]; exact ho2
              have B2 : Hid (Below WB.heap.size WB w2) := (A5.out.alloc hsr _).trans hb2
              clear ho2 hb2
              go_wp2_with fail
              go_roundw
              case rel => exact ⟨c + 1, by omega, by go_num, O2.out, B2.out⟩
              case measure => simp [intOf]; omega
            · have ec : c = l.length := by omega
              subst ec
              rw [List.take_length] at OW
              clear hc hlc2 RI
              have M5 : Hid (OwnLi wr WA.heap.size (.slice xa f.length xc) f) := ML.out.below A5.out (Nat.le_refl _)
              have P5 : Hid (wr.ownsRow WA.heap.size 3 1 (.slice ya yn yc) l.length (l.flatMap encI)) := own_lower OW.out HWB.out
              have A7 : Hid (Below WA.heap.size WA wr) := A4.out.trans (A5.out.mono HWB.out)
              have hs7 := A7.out.size
              go_wp2_with (at_builtin; refine wpList_append_li rfl _ _ rfl WA.heap.size _ f rfl (M5.out.below (below_alloc _ _) (Nat.le_refl _)) _ (.slice ya yn yc) l rfl (0, 0) (heap_alloc_new _ _) (P5.out.alloc _) (by omega) (by simp; omega) ?_)
              intro g2 k2 w5 hm5 hg5 _
              obtain ⟨mr, hmr⟩ := (M5.out.below (below_alloc wr (.cells #[.slice ya yn yc] 43)) (Nat.le_refl _)).row
              have B5 : Hid (Below WA.heap.size WA w5) := (A7.out.alloc hs7 _).trans ((Below.refl _ _).grown hg5 (by show WA.heap.size ≤ (wr.alloc _).heap.size; simp; omega) (fun q hq => (own_ge hmr hq).1))
              have M6 : Hid (OwnLi w5 WA.heap.size (.slice (some ⟨g2, 0, none⟩) (f.length + 1) k2) (ms.take (k + 1))) := by
                show OwnLi _ _ _ _
                rw [HNX.out]
                exact hm5
              clear hm5 hg5 hmr
              go_wp2_with fail
              go_roundw
              case rel => exact ⟨k + 1, by omega, by go_num, M6.out, B5.out⟩
              case measure => simp [intOf]; omega
        · have ek : k = ms.length := by omega
          subst ek
          rw [List.take_length] at ML ⊢
          have HQ : Hid (BX 30 wr w.heap.size #[.int .i64 step, .int .i64 phase, .bool fr, .bool dn, .slice va vs.length vc, .slice ma ms.length mc] ∧ BX 30 wr (w.heap.size + 1) #[.int .i64 0, .int .i64 0, .bool false, .bool false, .slice none 0 0, .slice none 0 0]) := ⟨Q1, T1⟩
          have V5 : wr.ownsRow W0.heap.size 59 2 (.slice ua un uc) vs.length (vs.flatMap encM) := own_below VO.out A2.out (Nat.le_refl _)
          have L5 : OwnLi wr W0.heap.size (.slice xa ms.length xc) ms := ML.out.lower HWS.out
          have X6 := Q1.set 4 (.slice ua un uc)
          have W6 : Hid (BX 30 (wr.setCell ⟨w.heap.size, 4, none⟩ (.slice ua un uc)) w.heap.size #[.int .i64 step, .int .i64 phase, .bool fr, .bool dn, .slice ua un uc, .slice ma ms.length mc] ∧ BX 30 (wr.setCell ⟨w.heap.size, 4, none⟩ (.slice ua un uc)) (w.heap.size + 1) #[.int .i64 0, .int .i64 0, .bool false, .bool false, .slice none 0 0, .slice none 0 0] ∧ (wr.setCell ⟨w.heap.size, 4, none⟩ (.slice ua un uc)).ownsRow W0.heap.size 59 2 (.slice ua un uc) vs.length (vs.flatMap encM) ∧ OwnLi (wr.setCell ⟨w.heap.size, 4, none⟩ (.slice ua un uc)) W0.heap.size (.slice xa ms.length xc) ms ∧ Below w.heap.size w (wr.setCell ⟨w.heap.size, 4, none⟩ (.slice ua un uc))) :=
            ⟨X6, T1.other (by omega), own_off V5 Q1 (by decide) (Kept.box _ _ _ _), L5.off Q1 (by decide) (by decide) (Kept.box _ _ _ _), hbw.setCell (p := ⟨w.heap.size, 4, none⟩) (Nat.le_refl _) _⟩
          clear V5 L5 X6 HQ Q1 T1 hbw hk hlt
          go_upto_region 17 with fail
          generalize wr.setCell ⟨w.heap.size, 4, none⟩ (.slice ua un uc) = w6 at *
          obtain ⟨X6, T6, V6, L6, B6⟩ := W6.out
          have X7 : BX 30 (w6.setCell ⟨w.heap.size, 5, none⟩ (.slice xa ms.length xc)) w.heap.size #[.int .i64 step, .int .i64 phase, .bool fr, .bool dn, .slice ua un uc, .slice xa ms.length xc] := X6.set 5 _
          have W7 : Hid (BX 30 (w6.setCell ⟨w.heap.size, 5, none⟩ (.slice xa ms.length xc)) w.heap.size #[.int .i64 step, .int .i64 phase, .bool fr, .bool dn, .slice ua un uc, .slice xa ms.length xc] ∧ BX 30 (w6.setCell ⟨w.heap.size, 5, none⟩ (.slice xa ms.length xc)) (w.heap.size + 1) #[.int .i64 0, .int .i64 0, .bool false, .bool false, .slice none 0 0, .slice none 0 0] ∧ (w6.setCell ⟨w.heap.size, 5, none⟩ (.slice xa ms.length xc)).ownsRow W0.heap.size 59 2 (.slice ua un uc) vs.length (vs.flatMap encM) ∧ OwnLi (w6.setCell ⟨w.heap.size, 5, none⟩ (.slice xa ms.length xc)) W0.heap.size (.slice xa ms.length xc) ms ∧ Below w.heap.size w (w6.setCell ⟨w.heap.size, 5, none⟩ (.slice xa ms.length xc))) :=
            ⟨X7, T6.other (by omega), own_off V6 X6 (by decide) (Kept.box _ _ _ _), L6.off X6 (by decide) (by decide) (Kept.box _ _ _ _), B6.setCell (p := ⟨w.heap.size, 5, none⟩) (Nat.le_refl _) _⟩
          clear c0 c1 c2 c3 c4 c5 f0 f1 f2 f3 f4 f5
          obtain ⟨⟨c0, c1, c2, c3, c4, c5⟩, f0, f1, f2, f3, f4, f5⟩ := X6.all6
          clear X6 T6 V6 L6 B6 X7 W6
          go_upto_region 18 with fail
          generalize w6.setCell ⟨w.heap.size, 5, none⟩ (.slice xa ms.length xc) = w7 at *
          obtain ⟨X8, T8, V8, L8, B8⟩ := W7.out
          have VE : Hid ((put6 w7 (w.heap.size + 1) (.int .i64 step) (.int .i64 phase) (.bool fr) (.bool dn) (.slice ua un uc) (.slice xa ms.length xc)).ownsRow w.heap.size 59 2 (.slice ua un uc) vs.length (vs.flatMap encM)) := own_lower (own_off V8 T8 (by decide) (kept_put6 w7 (w.heap.size + 1) _ _ _ _ _ _)) (by omega)
          have ME : Hid (OwnLi (put6 w7 (w.heap.size + 1) (.int .i64 step) (.int .i64 phase) (.bool fr) (.bool dn) (.slice ua un uc) (.slice xa ms.length xc)) w.heap.size (.slice xa ms.length xc) ms) := (L8.off T8 (by decide) (by decide) (kept_put6 w7 (w.heap.size + 1) _ _ _ _ _ _)).lower (by omega)
          have RX : Hid (BX 30 (put6 w7 (w.heap.size + 1) (.int .i64 step) (.int .i64 phase) (.bool fr) (.bool dn) (.slice ua un uc) (.slice xa ms.length xc)) (w.heap.size + 1) #[.int .i64 step, .int .i64 phase, .bool fr, .bool dn, .slice ua un uc, .slice xa ms.length xc]) := T8.put6
          have BE : Hid (Below w.heap.size w (put6 w7 (w.heap.size + 1) (.int .i64 step) (.int .i64 phase) (.bool fr) (.bool dn) (.slice ua un uc) (.slice xa ms.length xc))) := below_put6 B8 (by omega) T8.lt _ _ _ _ _ _
          clear c0 c1 c2 c3 c4 c5 f0 f1 f2 f3 f4 f5
          obtain ⟨⟨c0, c1, c2, c3, c4, c5⟩, f0, f1, f2, f3, f4, f5⟩ := X8.all6
          obtain ⟨⟨d0, d1, d2, d3, d4, d5⟩, e0, e1, e2, e3, e4, e5⟩ := T8.all6
          clear X8 T8 V8 L8 B8 W7
          go_wp2_with fail
          obtain ⟨⟨r0, r1, r2, r3, r4, r5⟩, _⟩ := RX.out.all6
          unfold put6 at r0 r1 r2 r3 r4 r5
          refine bodyPost_ret (v := .agg #[.int .i64 step, .int .i64 phase, .bool fr, .bool dn, .slice ua un uc, .slice xa ms.length xc]) (by simp [results, Try.results24, go_sem, r0, r1, r2, r3, r4, r5]) rfl ?_
          exact ⟨_, _, rfl, VE.out, ME.out, BE.out⟩
end Go.Proofs.Ytbmkgnlfccigpaa
