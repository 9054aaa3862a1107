/-
  Contract of the document's own ReachOf.
-/
import Derived.Test.YtankibadiomkkaaPathLists
import Derived.Test.YtankibadiomkkaaBoolRow
import Derived.Test.YtankibadiomkkaaFaultWalk
import Derived.Test.YtankibadiomkkaaBoxMem
import Derived.Test.YtankibadiomkkaaPathErr
import Derived.Test.YtankibadiomkkaaRefIn
import Derived.Deep.CutRange
namespace Go.Proofs.Ytankibadiomkkaa
set_option maxRecDepth 100000
open Go.ChangeShapes Go.WideShapes Go.ChangeAt Go.RowKit

set_option maxHeartbeats 2000000 in
set_option maxRecDepth 100000 in
theorem reachOf_any (v : Value) (es : List Ed) (n s : Int) (w : World) (h : EdR w v es) :
    Calls Try.prog 17 #[.agg #[.int .i64 n, v], .int .i64 s] w (BolP w (errV n es s) (reachF n.toNat es s)) := by
  have HR : Hid (EdR w v es) := h
  obtain ⟨a, cap, rfl, hca, hma, _, _⟩ := h
  unfold maxLen at hma
  have HCK : Hid (∀ X, EdR X (.slice a es.length cap) es → Calls Try.prog 26 #[.agg #[.int .i64 n, .slice a es.length cap]] X fun e w' => e = .returned (.int .i64 (faultE n es)) ∧ Below X.heap.size X w') := fun X hX => fault_walk _ es n X hX
  obtain ⟨W0, hW0⟩ : ∃ W0, W0 = w.alloc (.cells #[.int .i64 n, .slice a es.length cap] 24) := ⟨_, rfl⟩
  have Q0 : BX 24 W0 w.heap.size #[.int .i64 n, .slice a es.length cap] := by rw [hW0]; exact BX.new _ _ _
  have BH : Hid (Below w.heap.size w W0) := by show Below _ _ _; rw [hW0]; exact below_alloc _ _
  have s1 : w.heap.size + 1 ≤ W0.heap.size := by rw [hW0]; simp
  have HK : Hid (∀ X, Below W0.heap.size W0 X → BX 24 X w.heap.size #[.int .i64 n, .slice a es.length cap] ∧ Below w.heap.size w X ∧ EdR X (.slice a es.length cap) es) := fun X hX => ⟨Q0.below hX (by omega), BH.out.trans (hX.mono (by omega)), HR.out.below (BH.out.trans (hX.mono (by omega))) (Nat.le_refl _)⟩
  have R0 : Hid (EdR W0 (.slice a es.length cap) es) := HR.out.below BH.out (Nat.le_refl _)
  obtain ⟨q0, q1, _⟩ := Q0.all2
  clear Q0
  by_cases hf : faultE n es = 0
  · obtain ⟨hn0, hn1, hle, hgd⟩ := fault_ok hf
    rw [hf] at HCK
    have CI : Hid (∀ X, Calls Try.prog 27 #[.int .i64 s, .int .i64 0, .int .i64 (n - 1)] X fun e w' => e = .returned (.bool (decide (0 ≤ s ∧ s < n))) ∧ w' = X) := fun X => by
      have := in_any s 0 (n - 1) X
      rwa [inB_v] at this
    have wn : IntKind.i64.wrap (n - 1) = n - 1 := wrap_id64 (by omega) (by omega)
    by_cases hs : 0 ≤ s ∧ s < n
    · rw [errV_ok hf hs]
      rw [decide_eq_true hs] at CI
      obtain ⟨m, rfl⟩ : ∃ m : Nat, n = m := ⟨n.toNat, by omega⟩
      obtain ⟨sv, rfl⟩ : ∃ m : Nat, s = m := ⟨s.toNat, by omega⟩
      rw [Int.toNat_natCast]
      have HG : Hid (InG m es) := in_fault hf
      have HP : Hid (∀ v (w' : World), w'.ownsRow w.heap.size 4 1 v (reachF m es sv).length ((reachF m es sv).flatMap encT) → Below w.heap.size w w' → BolP w 0 (reachF m es sv) (.returned (.tuple #[v, .int .i64 0])) w') := fun v w' h1 h2 => BolP.yes h1 h2
      have HRF : Hid (reachF m es sv = rnds rcS es m (reach0 m sv)) := rfl
      have HRL : Hid ((reachF m es sv).length = m) := (reach_ok HG.out ⟨by omega, by omega⟩).1
      generalize BolP w 0 (reachF m es sv) = P at *
      clear hf hgd
      go_enter Try.func17, Try.ntmps17
      go_upto_region 1 with fail
      rw [← hW0]
      clear hW0
      go_wp2_with fail
      refine (HCK.out _ R0.out).mono ?_
      rintro e w1 ⟨rfl, hb1⟩
      have A1 : Hid (Below W0.heap.size W0 w1) := hb1
      clear hb1 q0 q1 HCK
      obtain ⟨Q1, _, _⟩ := HK.out _ A1.out
      obtain ⟨q0, q1, _⟩ := Q1.all2
      clear Q1
      go_wp2_with fail
      refine (CI.out _).mono ?_
      rintro e w2 ⟨rfl, hw⟩
      replace hw := hw.symm
      subst hw
      obtain ⟨w3, hmk, ho3, hb3⟩ := make_bools w1 m (by omega)
      have O3 : Hid (w3.ownsRow w1.heap.size 4 1 (.slice (some ⟨w1.heap.size, 0, none⟩) m m) m ((List.replicate m false).flatMap encT)) := ho3
      have A3 : Hid (Below W0.heap.size W0 w3) := A1.out.trans (hb3.mono A1.out.size)
      have L3 : W0.heap.size ≤ w1.heap.size := A1.out.size
      have k3 := own_atB ho3 (i := sv) (x := false) (by rw [List.getElem?_replicate, if_pos (by omega)])
      have f3 := frozenK ho3 sv
      have i0 : (0 : Int) ≤ (sv : Int) := by omega
      have i1 : (sv : Int) < (m : Int) := by omega
      have HST : Hid ((w3.setCell ⟨w1.heap.size, sv, none⟩ (.bool true)).ownsRow w1.heap.size 4 1 (.slice (some ⟨w1.heap.size, 0, none⟩) m m) m ((reach0 m sv).flatMap encT)) := by
        show World.ownsRow _ _ _ _ _ _ _
        have := own_setB (j := sv) (x := true) ho3
        unfold reach0
        rwa [Int.toNat_natCast]
      have HAS : Hid (Below W0.heap.size W0 (w3.setCell ⟨w1.heap.size, sv, none⟩ (.bool true))) := A3.out.setCell L3 _
      clear ho3 hb3
      go_upto_region 8 with fail
      clear k3 f3 hmk q0 q1
      generalize w3.setCell ⟨w1.heap.size, sv, none⟩ (.bool true) = W4 at *
      generalize w1.heap.size = g at *
      go_wp2_with fail
      go_loopw [8] (fun i wr => ∃ k : Nat, k ≤ m ∧ i = .int .i64 k ∧ wr.ownsRow g 4 1 (.slice (some ⟨g, 0, none⟩) m m) m ((rnds rcS es k (reach0 m sv)).flatMap encT) ∧ Below W0.heap.size W0 wr) (fun i _ => m - (intOf i).toNat)
      case atStart => exact ⟨0, by omega, rfl, HST.out, HAS.out⟩
      case round =>
        obtain ⟨k, hk, rfl, hown, hbel⟩ := hrel
        have OW : Hid (wr.ownsRow g 4 1 (.slice (some ⟨g, 0, none⟩) m m) m ((rnds rcS es k (reach0 m sv)).flatMap encT)) := hown
        have AB : Hid (Below W0.heap.size W0 wr) := hbel
        obtain ⟨Q5, _, _⟩ := HK.out _ hbel
        obtain ⟨q0, q1, _⟩ := Q5.all2
        clear hown hbel Q5
        by_cases hlt : k < m
        · have HNX : Hid (rnds rcS es (k + 1) (reach0 m sv) = es.foldl rcS (rnds rcS es k (reach0 m sv))) := rnds_next _ _ _ _
          have HLN : Hid ((rnds rcS es k (reach0 m sv)).length = m) := by
            have : ∀ l : List Bool, l.length = m → (rnds rcS es k l).length = m := fun l hl => rnds_keep (I := fun l : List Bool => l.length = m) (fun l e _ hl => by rw [rcS_len]; exact hl) k hl
            exact this _ (reach0_len m sv)
          generalize rnds rcS es k (reach0 m sv) = l0 at *
          go_wp2_with fail
          go_loopw [9] (fun i wr => ∃ j : Nat, j ≤ es.length ∧ i = .int .i64 j ∧ wr.ownsRow g 4 1 (.slice (some ⟨g, 0, none⟩) m m) m (((es.take j).foldl rcS l0).flatMap encT) ∧ Below W0.heap.size W0 wr) (fun i _ => es.length - (intOf i).toNat)
          case atStart => exact ⟨0, by omega, rfl, OW.out, AB.out⟩
          case round =>
            obtain ⟨j, hj, rfl, hown, hbel⟩ := hrel
            have OQ : Hid (wr.ownsRow g 4 1 (.slice (some ⟨g, 0, none⟩) m m) m (((es.take j).foldl rcS l0).flatMap encT)) := hown
            have AQ : Hid (Below W0.heap.size W0 wr) := hbel
            clear q0 q1
            obtain ⟨Q6, _, R6⟩ := HK.out _ hbel
            obtain ⟨q0, q1, _⟩ := Q6.all2
            clear hown hbel Q6
            by_cases hlt2 : j < es.length
            · obtain ⟨b, off, cap', e1, _, _, lt, hv⟩ := EdR.at R6 (by omega)
              injection e1 with e1 _ e3
              subst e1 e3
              obtain ⟨x, hx⟩ := getE hlt2
              obtain ⟨c1, c2, c3⟩ := hv j x hx
              obtain ⟨g1, g2, g3, g4, g5⟩ := HG.out x (List.mem_of_getElem? hx)
              obtain ⟨xf, hxf⟩ : ∃ xf : Nat, x.1 = xf := ⟨x.1.toNat, by omega⟩
              obtain ⟨xt, hxt⟩ : ∃ xt : Nat, x.2.1 = xt := ⟨x.2.1.toNat, by omega⟩
              have HSN : Hid ((es.take (j + 1)).foldl rcS l0 = rcS ((es.take j).foldl rcS l0) x) := by
                show _ = _
                rw [take_snoc hx, List.foldl_append]; rfl
              have HLL : Hid (((es.take j).foldl rcS l0).length = m) := by show List.length _ = _; exact fold_keeps (I := fun l : List Bool => l.length = m) (fun l e _ hl => by rw [rcS_len]; exact hl) HLN.out
              rw [hxf] at c1 g1 g2
              rw [hxt] at c2 g3 g4
              have p0 : (0 : Int) ≤ (j : Int) := by omega
              have p1 : (j : Int) < (es.length : Int) := by omega
              generalize (es.take j).foldl rcS l0 = l at *
              obtain ⟨y, hy⟩ := getX (es := l) (i := xf) (by have := HLL.out; omega)
              have cf := own_atB OQ.out hy
              obtain ⟨z, hz⟩ := getX (es := l) (i := xt) (by have := HLL.out; omega)
              have ct := own_atB OQ.out hz
              have ft := frozenK OQ.out xt
              have HYA : Hid (atB l x.1 = y) := by show _ = _; rw [hxf]; exact atB_at hy
              have HTN : Hid (x.2.1.toNat = xt) := by show _ = _; rw [hxt]; rfl
              clear hv hx hxf hxt hy hz g5
              cases y
              · have HS2 : Hid ((es.take (j + 1)).foldl rcS l0 = l) := by
                  show _ = _
                  rw [HSN.out]
                  unfold rcS
                  rw [HYA.out]; rfl
                go_wp2_with fail
                go_roundw
                case rel => exact ⟨j + 1, by omega, by go_num, by rw [HS2.out]; exact OQ.out, AQ.out⟩
                case measure => simp [intOf]; omega
              · have HS2 : Hid ((es.take (j + 1)).foldl rcS l0 = l.set xt true) := by
                  show _ = _
                  rw [HSN.out]
                  unfold rcS
                  rw [HYA.out, HTN.out]; rfl
                have O7 : Hid ((wr.setCell ⟨g, xt, none⟩ (.bool true)).ownsRow g 4 1 (.slice (some ⟨g, 0, none⟩) m m) m ((l.set xt true).flatMap encT)) := own_setB OQ.out
                have A7 : Hid (Below W0.heap.size W0 (wr.setCell ⟨g, xt, none⟩ (.bool true))) := AQ.out.setCell L3 _
                go_wp2_with fail
                go_roundw
                case rel => exact ⟨j + 1, by omega, by go_num, by rw [HS2.out]; exact O7.out, A7.out⟩
                case measure => simp [intOf]; omega
            · have ek : es.take j = es := List.take_of_length_le (by omega)
              rw [ek, ← HNX.out] at OQ
              clear ek
              go_wp2_with fail
              go_roundw
              case rel => exact ⟨k + 1, by omega, by go_num, OQ.out, AQ.out⟩
              case measure => simp [intOf]; omega
        · have ek : k = m := by omega
          rw [ek, ← HRF.out] at OW
          clear ek
          have OE : Hid (wr.ownsRow w.heap.size 4 1 (.slice (some ⟨g, 0, none⟩) m m) (reachF m es sv).length ((reachF m es sv).flatMap encT)) := by
            show World.ownsRow _ _ _ _ _ _ _
            rw [HRL.out]
            exact own_lower OW.out (by omega)
          have BE : Hid (Below w.heap.size w wr) := (HK.out _ AB.out).2.1
          go_wp2_with fail
          exact HP.out _ _ OE.out BE.out
    · rw [errV_out hf hs]
      rw [decide_eq_false hs] at CI
      have HP : Hid (∀ w', Below w.heap.size w w' → BolP w 2 (reachF n.toNat es s) (.returned (.tuple #[.slice none 0 0, .int .i64 2])) w') := fun w' h2 => BolP.no (by decide) h2
      generalize BolP w 2 (reachF n.toNat es s) = P at *
      clear hf hgd hs
      go_enter Try.func17, Try.ntmps17
      go_upto_region 1 with fail
      rw [← hW0]
      clear hW0
      go_wp2_with fail
      refine (HCK.out _ R0.out).mono ?_
      rintro e w1 ⟨rfl, hb1⟩
      have A1 : Hid (Below W0.heap.size W0 w1) := hb1
      clear hb1 q0 q1 HCK
      obtain ⟨Q1, b1, _⟩ := HK.out _ A1.out
      have B1 : Hid (Below w.heap.size w w1) := b1
      obtain ⟨q0, q1, _⟩ := Q1.all2
      clear Q1 b1
      go_wp2_with fail
      refine (CI.out _).mono ?_
      rintro e w2 ⟨rfl, hw⟩
      replace hw := hw.symm
      subst hw
      go_wp2_with fail
      exact HP.out _ B1.out
  · rw [errV_bad hf]
    have hne : (faultE n es != 0) = true := by simpa using hf
    have HP : Hid (∀ w', Below w.heap.size w w' → BolP w (faultE n es) (reachF n.toNat es s) (.returned (.tuple #[.slice none 0 0, .int .i64 (faultE n es)])) w') := fun w' h2 => BolP.no hf h2
    generalize BolP w (faultE n es) (reachF n.toNat es s) = P at *
    generalize faultE n es = fe at *
    clear hf
    go_enter Try.func17, Try.ntmps17
    go_upto_region 1 with fail
    rw [← hW0]
    clear hW0
    go_wp2_with fail
    refine (HCK.out _ R0.out).mono ?_
    rintro e w1 ⟨rfl, hb1⟩
    have B1 : Hid (Below w.heap.size w w1) := (HK.out _ hb1).2.1
    clear hb1 q0 q1 HCK
    go_wp2_with fail
    exact HP.out _ B1.out
end Go.Proofs.Ytankibadiomkkaa
