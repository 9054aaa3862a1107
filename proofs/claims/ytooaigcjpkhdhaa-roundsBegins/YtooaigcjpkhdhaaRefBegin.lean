/-
  Contract of the document's own Begun.
-/
import Derived.Test.YtooaigcjpkhdhaaStaMem
import Derived.Test.YtooaigcjpkhdhaaRefJob
import Derived.Test.YtooaigcjpkhdhaaRoundTell
namespace Go.Proofs.Ytooaigcjpkhdhaa
set_option maxRecDepth 100000
open Go.ChangeShapes Go.WideShapes Go.ChangeAt Go.RowKit

set_option maxHeartbeats 2000000 in
set_option maxRecDepth 100000 in
theorem begun_any (v : Value) (es : List Ed) (n k s : Int) (w : World) (h : EdR w v es) :
    Calls Try.prog 13 #[.agg #[.int .i64 n, v, .int .i64 k, .int .i64 s]] w (StaP w (begE n es k s)) := by
  have HR : Hid (EdR w v es) := h
  obtain ⟨a, cap, rfl, _, _, _, _⟩ := h
  have HCK : Hid (∀ X, EdR X (.slice a es.length cap) es → Calls Try.prog 11 #[.agg #[.int .i64 n, .slice a es.length cap, .int .i64 k, .int .i64 s]] X fun e w' => e = .returned (.int .i64 (jobE n es k s)) ∧ Below X.heap.size X w') := fun X hX => jobFault_any _ es n k s X hX
  obtain ⟨W0, hW0⟩ : ∃ W0, W0 = (w.alloc (.cells #[.int .i64 n, .slice a es.length cap, .int .i64 k, .int .i64 s] 26)).alloc (.cells #[.int .i64 0, .int .i64 0, .bool false, .bool false, .slice none 0 0, .slice none 0 0] 34) := ⟨_, rfl⟩
  obtain ⟨Q0, T0, B0, s1, s2⟩ := boxes2 w #[.int .i64 n, .slice a es.length cap, .int .i64 k, .int .i64 s] #[.int .i64 0, .int .i64 0, .bool false, .bool false, .slice none 0 0, .slice none 0 0] 26 34 W0 hW0
  have BH : Hid (Below w.heap.size w W0) := B0
  have HK : Hid (∀ X, Below W0.heap.size W0 X → BX 26 X w.heap.size #[.int .i64 n, .slice a es.length cap, .int .i64 k, .int .i64 s] ∧ BX 34 X (w.heap.size + 1) #[.int .i64 0, .int .i64 0, .bool false, .bool false, .slice none 0 0, .slice none 0 0] ∧ Below w.heap.size w X) := fun X hX => ⟨Q0.below hX (by omega), T0.below hX (by omega), BH.out.trans (hX.mono (by omega))⟩
  have R0 : Hid (EdR W0 (.slice a es.length cap) es) := HR.out.below BH.out (Nat.le_refl _)
  obtain ⟨q0, q1, q2, q3⟩ := Q0.all4
  clear Q0 T0 B0
  by_cases hj : jobE n es k s = 0
  · obtain ⟨hf, _, _⟩ := jobE_zero hj
    obtain ⟨hn0, hn1, _, _⟩ := fault_ok hf
    obtain ⟨m, rfl⟩ : ∃ m : Nat, n = m := ⟨n.toNat, by omega⟩
    have HP : Hid (∀ (w' : World) vv vm, w'.ownsRow w.heap.size 59 2 vv m ((List.replicate m ((-1, -1) : Ml)).flatMap encM) → OwnLi w' w.heap.size vm (List.replicate m []) → Below w.heap.size w w' → StaP w (begE m es k s) (.returned (.tuple #[.agg #[.int .i64 0, .int .i64 0, .bool (decide (0 < m)), .bool (decide (m = 0)), vv, vm], .int .i64 0])) w') := fun w' vv vm h1 h2 h3 => by
      unfold begE
      rw [if_pos hj, Int.toNat_natCast]
      exact StaP.yes (t := beginS m) (by simpa [beginS] using h1) h2 h3
    rw [hj] at HCK
    generalize StaP w (begE m es k s) = P at *
    obtain ⟨bf, hbf⟩ : ∃ b, decide (0 < m) = b := ⟨_, rfl⟩
    obtain ⟨bd, hbd⟩ : ∃ b, decide (m = 0) = b := ⟨_, rfl⟩
    rw [hbf, hbd] at HP
    have td : ((m : Int) == 0) = bd := by
      rw [← hbd, Bool.eq_iff_iff]
      simp
    clear hf hj hbd
    go_enter Try.func13, Try.ntmps13
    go_upto_region 1 with fail
    rw [← hW0]
    clear hW0
    go_wp2_with fail
    refine (HCK.out _ R0.out).mono ?_
    rintro e w1 ⟨rfl, hb1⟩
    have A1 : Hid (Below W0.heap.size W0 w1) := hb1
    clear q0 q1 q2 q3 HCK hb1
    obtain ⟨Q1, _, _⟩ := HK.out _ A1.out
    obtain ⟨q0, q1, q2, q3⟩ := Q1.all4
    have hs1 := A1.out.size
    clear Q1
    go_upto_region 5 with fail
    have W2 : Hid (Below W0.heap.size W0 (w1.alloc (.cells #[.int .i64 0, .int .i64 0, .bool bf, .bool bd, .slice none 0 0, .slice none 0 0] 34)) ∧ BX 34 (w1.alloc (.cells #[.int .i64 0, .int .i64 0, .bool bf, .bool bd, .slice none 0 0, .slice none 0 0] 34)) w1.heap.size #[.int .i64 0, .int .i64 0, .bool bf, .bool bd, .slice none 0 0, .slice none 0 0]) := ⟨A1.out.alloc hs1 _, BX.new _ _ _⟩
    generalize w1.alloc (.cells #[.int .i64 0, .int .i64 0, .bool bf, .bool bd, .slice none 0 0, .slice none 0 0] 34) = w2 at *
    generalize w1.heap.size = b5 at *
    obtain ⟨A2', X2'⟩ := W2.out
    have A2 : Hid (Below W0.heap.size W0 w2) := A2'
    have X2 : Hid (BX 34 w2 b5 #[.int .i64 0, .int .i64 0, .bool bf, .bool bd, .slice none 0 0, .slice none 0 0]) := X2'
    clear A2' X2' W2 q0 q1 q2 q3 hbf
    go_wp2_with fail
    go_loopw [6] (fun i wr => ∃ (j : Nat) (vv vm : Value), j ≤ m ∧ i = .int .i64 j ∧ BX 34 wr b5 #[.int .i64 0, .int .i64 0, .bool bf, .bool bd, vv, vm] ∧ wr.ownsRow W0.heap.size 59 2 vv (List.replicate j ((-1, -1) : Ml)).length ((List.replicate j ((-1, -1) : Ml)).flatMap encM) ∧ OwnLi wr W0.heap.size vm (List.replicate j []) ∧ Below W0.heap.size W0 wr) (fun i _ => m - (intOf i).toNat)
    case atStart => exact ⟨0, _, _, by omega, rfl, X2.out, World.ownsRow_nil _ _ _ _, OwnLi.nil _ _, A2.out⟩
    case round =>
      obtain ⟨j, vv, vm, hj, rfl, hbx, hvo, hmo, hbel⟩ := hrel
      have XB : Hid (BX 34 wr b5 #[.int .i64 0, .int .i64 0, .bool bf, .bool bd, vv, vm]) := hbx
      have VO : Hid (wr.ownsRow W0.heap.size 59 2 vv (List.replicate j ((-1, -1) : Ml)).length ((List.replicate j ((-1, -1) : Ml)).flatMap encM)) := hvo
      have MO : Hid (OwnLi wr W0.heap.size vm (List.replicate j [])) := hmo
      have AB : Hid (Below W0.heap.size W0 wr) := hbel
      obtain ⟨Q3, T3, _⟩ := HK.out _ hbel
      obtain ⟨q0, q1, q2, q3⟩ := Q3.all4
      have TT : Hid (BX 34 wr (w.heap.size + 1) #[.int .i64 0, .int .i64 0, .bool false, .bool false, .slice none 0 0, .slice none 0 0]) := T3
      have hsr := hbel.size
      obtain ⟨va, vn, vc, rfl⟩ : ∃ a n c, vv = .slice a n c := by
        rcases own_shapeK hvo with ⟨e, _⟩ | ⟨g', c', e, _⟩
        · exact ⟨_, _, _, e⟩
        · exact ⟨_, _, _, e⟩
      obtain ⟨ma, mc, rfl⟩ := hmo.shape
      clear hbx hvo hmo hbel Q3 T3
      by_cases hlt : j < m
      · have HNV : Hid (List.replicate (j + 1) ((-1, -1) : Ml) = List.replicate j (-1, -1) ++ [(-1, -1)]) := List.replicate_succ'
        have HNM : Hid (List.replicate (j + 1) ([] : List Int) = List.replicate j [] ++ [[]]) := List.replicate_succ'
        have hlv : (List.replicate j ((-1, -1) : Ml)).length ≤ 200 := by simp; omega
        have hlm : (List.replicate j ([] : List Int)).length ≤ 200 := by simp; omega
        generalize List.replicate j ((-1, -1) : Ml) = f at *
        generalize List.replicate j ([] : List Int) = g at *
        obtain ⟨⟨c0, c1, c2, c3, c4, c5⟩, f0, f1, f2, f3, f4, f5⟩ := XB.out.all6
        have hb5 := XB.out.lt
        have n4 : ∀ X, (wr.alloc X).cell? ⟨b5, 4, none⟩ = some (.slice va vn vc) := fun X => ((below_alloc wr X).cell (p := ⟨b5, 4, none⟩) hb5).trans c4
        go_wp2_with (at_builtin; refine wpList_append_newK kV rfl _ _ rfl W0.heap.size _ f rfl (VO.out.alloc _) _ (-1, -1) rfl #[.int .i64 (-1), .int .i64 (-1)] rfl (0, 0) (heap_alloc_new _ _) (by simp [kV]; omega) (by unfold maxLen; omega) (by simp; omega) ?_)
        intro g1 k1 w3 ho3 hb3 hg3
        have VA := VO.out.alloc (.cells #[.int .i64 (-1), .int .i64 (-1)] 59)
        have X3 : BX 34 w3 b5 #[.int .i64 0, .int .i64 0, .bool bf, .bool bd, .slice va vn vc, .slice ma g.length mc] := (XB.out.below (below_alloc _ _) hb5).grown VA (by decide) hg3
        have T3 : BX 34 w3 (w.heap.size + 1) #[.int .i64 0, .int .i64 0, .bool false, .bool false, .slice none 0 0, .slice none 0 0] := (TT.out.below (below_alloc _ _) TT.out.lt).grown VA (by decide) hg3
        have M3 : OwnLi w3 W0.heap.size (.slice ma g.length mc) g := OwnLi.apart (MO.out.below (below_alloc _ _) (Nat.le_refl _)) VA hg3 (by decide) (by decide)
        have B3 : Below W0.heap.size W0 w3 := (AB.out.alloc hsr _).trans hb3
        have V3 : w3.ownsRow W0.heap.size 59 2 (.slice (some ⟨g1, 0, none⟩) (f.length + 1) k1) (f ++ [(-1, -1)]).length ((f ++ [(-1, -1)]).flatMap encM) := by rw [flat_snoc, List.length_append]; exact ho3
        have W4 : Hid (BX 34 (w3.setCell ⟨b5, 4, none⟩ (.slice (some ⟨g1, 0, none⟩) (f.length + 1) k1)) b5 #[.int .i64 0, .int .i64 0, .bool bf, .bool bd, .slice (some ⟨g1, 0, none⟩) (f.length + 1) k1, .slice ma g.length mc] ∧ OwnLi (w3.setCell ⟨b5, 4, none⟩ (.slice (some ⟨g1, 0, none⟩) (f.length + 1) k1)) W0.heap.size (.slice ma g.length mc) g ∧ (w3.setCell ⟨b5, 4, none⟩ (.slice (some ⟨g1, 0, none⟩) (f.length + 1) k1)).ownsRow W0.heap.size 59 2 (.slice (some ⟨g1, 0, none⟩) (f.length + 1) k1) (f ++ [(-1, -1)]).length ((f ++ [(-1, -1)]).flatMap encM) ∧ Below W0.heap.size W0 (w3.setCell ⟨b5, 4, none⟩ (.slice (some ⟨g1, 0, none⟩) (f.length + 1) k1))) :=
          ⟨X3.set 4 _, M3.off X3 (by decide) (by decide) (Kept.box _ _ _ _), own_off V3 X3 (by decide) (Kept.box _ _ _ _), B3.setCell (p := ⟨b5, 4, none⟩) (by show W0.heap.size ≤ b5; omega) _⟩
        clear n4 c0 c1 c2 c3 c4 c5 f0 f1 f2 f3 f4 f5
        obtain ⟨⟨c0, c1, c2, c3, c4, c5⟩, f0, f1, f2, f3, f4, f5⟩ := X3.all6
        clear ho3 hb3 hg3 VA X3 T3 M3 B3 V3 XB VO MO AB TT
        go_upto_region 9 with fail
        generalize w3.setCell ⟨b5, 4, none⟩ (.slice (some ⟨g1, 0, none⟩) (f.length + 1) k1) = w4 at *
        obtain ⟨X4', M4', V4', B4'⟩ := W4.out
        have X4 : Hid (BX 34 w4 b5 #[.int .i64 0, .int .i64 0, .bool bf, .bool bd, .slice (some ⟨g1, 0, none⟩) (f.length + 1) k1, .slice ma g.length mc]) := X4'
        have M4 : Hid (OwnLi w4 W0.heap.size (.slice ma g.length mc) g) := M4'
        have V4 : Hid (w4.ownsRow W0.heap.size 59 2 (.slice (some ⟨g1, 0, none⟩) (f.length + 1) k1) (f ++ [(-1, -1)]).length ((f ++ [(-1, -1)]).flatMap encM)) := V4'
        have B4 : Hid (Below W0.heap.size W0 w4) := B4'
        have hs4 := B4'.size
        clear c0 c1 c2 c3 c4 c5 f0 f1 f2 f3 f4 f5 X4' M4' V4' B4' W4
        obtain ⟨⟨c0, c1, c2, c3, c4, c5⟩, f0, f1, f2, f3, f4, f5⟩ := X4.out.all6
        have hb5' := X4.out.lt
        go_wp2_with (at_builtin; refine wpList_append_li rfl _ _ rfl W0.heap.size _ g rfl (M4.out.below (below_alloc _ _) (Nat.le_refl _)) _ (.slice none 0 0) [] rfl (0, 0) (heap_alloc_new _ _) (World.ownsRow_nil _ _ _ _) (by omega) (by simp; omega) ?_)
        intro g2 k2 w5 hm5 hg5 _
        obtain ⟨mr, hmr⟩ := (M4.out.below (below_alloc w4 (.cells #[.slice none 0 0] 41)) (Nat.le_refl _)).row
        have X5 : BX 34 w5 b5 #[.int .i64 0, .int .i64 0, .bool bf, .bool bd, .slice (some ⟨g1, 0, none⟩) (f.length + 1) k1, .slice ma g.length mc] := (X4.out.below (below_alloc _ _) hb5').grown hmr (by decide) hg5
        have V5 : w5.ownsRow W0.heap.size 59 2 (.slice (some ⟨g1, 0, none⟩) (f.length + 1) k1) (f ++ [(-1, -1)]).length ((f ++ [(-1, -1)]).flatMap encM) := (V4.out.alloc _).kept hg5 (own_apart (V4.out.alloc (.cells #[.slice none 0 0] 41)) hmr (by decide))
        have B5 : Below W0.heap.size W0 w5 := (B4.out.alloc hs4 _).trans ((Below.refl _ _).grown hg5 (by show W0.heap.size ≤ (w4.alloc _).heap.size; simp; omega) (fun q hq => (own_ge hmr hq).1))
        have W6 : Hid (BX 34 (w5.setCell ⟨b5, 5, none⟩ (.slice (some ⟨g2, 0, none⟩) (g.length + 1) k2)) b5 #[.int .i64 0, .int .i64 0, .bool bf, .bool bd, .slice (some ⟨g1, 0, none⟩) (f.length + 1) k1, .slice (some ⟨g2, 0, none⟩) (g.length + 1) k2] ∧ OwnLi (w5.setCell ⟨b5, 5, none⟩ (.slice (some ⟨g2, 0, none⟩) (g.length + 1) k2)) W0.heap.size (.slice (some ⟨g2, 0, none⟩) (g.length + 1) k2) (g ++ [[]]) ∧ (w5.setCell ⟨b5, 5, none⟩ (.slice (some ⟨g2, 0, none⟩) (g.length + 1) k2)).ownsRow W0.heap.size 59 2 (.slice (some ⟨g1, 0, none⟩) (f.length + 1) k1) (f ++ [(-1, -1)]).length ((f ++ [(-1, -1)]).flatMap encM) ∧ Below W0.heap.size W0 (w5.setCell ⟨b5, 5, none⟩ (.slice (some ⟨g2, 0, none⟩) (g.length + 1) k2))) :=
          ⟨X5.set 5 _, hm5.off X5 (by decide) (by decide) (Kept.box _ _ _ _), own_off V5 X5 (by decide) (Kept.box _ _ _ _), B5.setCell (p := ⟨b5, 5, none⟩) (by show W0.heap.size ≤ b5; omega) _⟩
        rw [← HNV.out, ← HNM.out] at W6
        clear c0 c1 c2 c3 c4 c5 f0 f1 f2 f3 f4 f5
        obtain ⟨⟨c0, c1, c2, c3, c4, c5⟩, f0, f1, f2, f3, f4, f5⟩ := X5.all6
        clear hm5 hg5 hmr X5 V5 B5 X4 M4 V4 B4
        go_wp2_with fail
        go_roundw
        case rel => exact ⟨j + 1, _, _, by omega, by go_num, W6.out.1, W6.out.2.2.1, W6.out.2.1, W6.out.2.2.2⟩
        case measure => simp [intOf]; omega
      · have ej : j = m := by omega
        subst ej
        have hvl : (List.replicate j ((-1, -1) : Ml)).length = j := by simp
        have VE : Hid ((put6 wr (w.heap.size + 1) (.int .i64 0) (.int .i64 0) (.bool bf) (.bool bd) (.slice va vn vc) (.slice ma (List.replicate j ([] : List Int)).length mc)).ownsRow w.heap.size 59 2 (.slice va vn vc) j ((List.replicate j ((-1, -1) : Ml)).flatMap encM)) := by
          have := own_off VO.out TT.out (by decide) (kept_put6 wr (w.heap.size + 1) (.int .i64 0) (.int .i64 0) (.bool bf) (.bool bd) (.slice va vn vc) (.slice ma (List.replicate j ([] : List Int)).length mc))
          rw [hvl] at this
          exact own_lower this (by omega)
        have ME : Hid (OwnLi (put6 wr (w.heap.size + 1) (.int .i64 0) (.int .i64 0) (.bool bf) (.bool bd) (.slice va vn vc) (.slice ma (List.replicate j ([] : List Int)).length mc)) w.heap.size (.slice ma (List.replicate j ([] : List Int)).length mc) (List.replicate j [])) := (MO.out.off TT.out (by decide) (by decide) (kept_put6 wr (w.heap.size + 1) _ _ _ _ _ _)).lower (by omega)
        have RX : Hid (BX 34 (put6 wr (w.heap.size + 1) (.int .i64 0) (.int .i64 0) (.bool bf) (.bool bd) (.slice va vn vc) (.slice ma (List.replicate j ([] : List Int)).length mc)) (w.heap.size + 1) #[.int .i64 0, .int .i64 0, .bool bf, .bool bd, .slice va vn vc, .slice ma (List.replicate j ([] : List Int)).length mc]) := TT.out.put6
        have BE : Hid (Below w.heap.size w (put6 wr (w.heap.size + 1) (.int .i64 0) (.int .i64 0) (.bool bf) (.bool bd) (.slice va vn vc) (.slice ma (List.replicate j ([] : List Int)).length mc))) := below_put6 (HK.out _ AB.out).2.2 (by omega) TT.out.lt _ _ _ _ _ _
        obtain ⟨⟨c0, c1, c2, c3, c4, c5⟩, f0, f1, f2, f3, f4, f5⟩ := XB.out.all6
        obtain ⟨⟨d0, d1, d2, d3, d4, d5⟩, e0, e1, e2, e3, e4, e5⟩ := TT.out.all6
        clear hvl
        generalize (List.replicate j ([] : List Int)).length = ml at *
        go_wp2_with fail
        obtain ⟨⟨r0, r1, r2, r3, r4, r5⟩, _⟩ := RX.out.all6
        unfold put6 at r0 r1 r2 r3 r4 r5
        refine bodyPost_ret (v := .tuple #[.agg #[.int .i64 0, .int .i64 0, .bool bf, .bool bd, .slice va vn vc, .slice ma ml mc], .int .i64 0]) (by simp [results, Try.results13, go_sem, r0, r1, r2, r3, r4, r5]) rfl ?_
        exact HP.out _ _ _ VE.out ME.out BE.out
  · have HP : Hid (∀ (w' : World), Below w.heap.size w w' → StaP w (begE n es k s) (.returned (.tuple #[.agg #[.int .i64 0, .int .i64 0, .bool false, .bool false, .slice none 0 0, .slice none 0 0], .int .i64 (jobE n es k s)])) w') := fun w' h => by
      unfold begE
      rw [if_neg hj]
      exact StaP.no h
    generalize StaP w (begE n es k s) = P at *
    generalize jobE n es k s = je at *
    have t0 : (je != 0) = true := by simpa using hj
    clear hj
    go_enter Try.func13, Try.ntmps13
    go_upto_region 1 with fail
    rw [← hW0]
    clear hW0
    go_wp2_with fail
    refine (HCK.out _ R0.out).mono ?_
    rintro e w1 ⟨rfl, hb1⟩
    obtain ⟨_, T1, b1⟩ := HK.out _ hb1
    have RX : Hid (BX 34 (put6 w1 (w.heap.size + 1) (.int .i64 0) (.int .i64 0) (.bool false) (.bool false) (.slice none 0 0) (.slice none 0 0)) (w.heap.size + 1) #[.int .i64 0, .int .i64 0, .bool false, .bool false, .slice none 0 0, .slice none 0 0]) := T1.put6
    have BE : Hid (Below w.heap.size w (put6 w1 (w.heap.size + 1) (.int .i64 0) (.int .i64 0) (.bool false) (.bool false) (.slice none 0 0) (.slice none 0 0))) := below_put6 b1 (by omega) T1.lt _ _ _ _ _ _
    obtain ⟨⟨c0, c1, c2, c3, c4, c5⟩, f0, f1, f2, f3, f4, f5⟩ := T1.all6
    clear hb1 q0 q1 q2 q3 HCK T1 b1
    go_wp2_with fail
    obtain ⟨⟨r0, r1, r2, r3, r4, r5⟩, _⟩ := RX.out.all6
    unfold put6 at r0 r1 r2 r3 r4 r5
    refine bodyPost_ret (v := .tuple #[.agg #[.int .i64 0, .int .i64 0, .bool false, .bool false, .slice none 0 0, .slice none 0 0], .int .i64 je]) (by simp [results, Try.results13, go_sem, r0, r1, r2, r3, r4, r5]) rfl ?_
    exact HP.out _ BE.out
end Go.Proofs.Ytooaigcjpkhdhaa
