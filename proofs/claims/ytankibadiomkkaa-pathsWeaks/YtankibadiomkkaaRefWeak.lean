/-
  Contract of the document's own WeakOf.
-/
import Derived.Test.YtankibadiomkkaaPathLists
import Derived.Test.YtankibadiomkkaaIntRow
import Derived.Test.YtankibadiomkkaaFaultWalk
import Derived.Test.YtankibadiomkkaaBoxMem
import Derived.Test.YtankibadiomkkaaPathErr
import Derived.Deep.CutRange
import Derived.Deep.QuietTactic
import Derived.BigQuiet
namespace Go.Proofs.Ytankibadiomkkaa
set_option maxRecDepth 100000
open Go.ChangeShapes Go.WideShapes Go.ChangeAt Go.RowKit

theorem weak0_next (k : Nat) : weak0 (k + 1) = weak0 k ++ [(k : Int)] := by simp [weak0, List.range_succ]

set_option maxHeartbeats 2000000 in
set_option maxRecDepth 100000 in
theorem weakOf_any (v : Value) (es : List Ed) (n : Int) (w : World) (h : EdR w v es) :
    Calls Try.prog 15 #[.agg #[.int .i64 n, v]] w (NumP w (faultE n es) (weakF n.toNat es)) := by
  have HR : Hid (EdR w v es) := h
  obtain ⟨a, cap, rfl, hca, hma, _, _⟩ := h
  unfold maxLen at hma
  have HCK : Hid (∀ X, EdR X (.slice a es.length cap) es → Calls Try.prog 26 #[.agg #[.int .i64 n, .slice a es.length cap]] X fun e w' => e = .returned (.int .i64 (faultE n es)) ∧ Below X.heap.size X w') := fun X hX => fault_walk _ es n X hX
  obtain ⟨W0, hW0⟩ : ∃ W0, W0 = w.alloc (.cells #[.int .i64 n, .slice a es.length cap] 24) := ⟨_, rfl⟩
  have Q0 : BX 24 W0 w.heap.size #[.int .i64 n, .slice a es.length cap] := by rw [hW0]; exact BX.new _ _ _
  have BH : Hid (Below w.heap.size w W0) := by show Below _ _ _; rw [hW0]; exact below_alloc _ _
  have s1 : w.heap.size + 1 ≤ W0.heap.size := by rw [hW0]; simp
  have HK : Hid (∀ X, Below W0.heap.size W0 X → BX 24 X w.heap.size #[.int .i64 n, .slice a es.length cap] ∧ Below w.heap.size w X ∧ EdR X (.slice a es.length cap) es) := fun X hX => ⟨Q0.below hX (by omega), BH.out.trans (hX.mono (by omega)), HR.out.below (BH.out.trans (hX.mono (by omega))) (Nat.le_refl _)⟩
  have R0 : Hid (EdR W0 (.slice a es.length cap) es) := HR.out.below BH.out (Nat.le_refl _)
  obtain ⟨q0, q1, _⟩ := Q0.all2
  clear Q0
  by_cases hf : faultE n es = 0
  · obtain ⟨hn0, hn1, hle, hgd⟩ := fault_ok hf
    rw [hf] at HCK ⊢
    obtain ⟨m, rfl⟩ : ∃ m : Nat, n = m := ⟨n.toNat, by omega⟩
    rw [Int.toNat_natCast]
    have HG : Hid (InG m es) := in_fault hf
    have HP : Hid (∀ v (w' : World), w'.ownsRow w.heap.size 3 1 v (weakF m es).length ((weakF m es).flatMap encI) → Below w.heap.size w w' → NumP w 0 (weakF m es) (.returned (.tuple #[v, .int .i64 0])) w') := fun v w' h1 h2 => NumP.yes h1 h2
    have HRF : Hid (weakF m es = rnds wkS es m (weak0 m)) := rfl
    have HRL : Hid ((weakF m es).length = m) := (weak_ok HG.out).1
    generalize NumP w 0 (weakF m es) = P at *
    clear hf hgd
    go_enter Try.func15, Try.ntmps15
    go_upto_region 1 with fail
    rw [← hW0]
    clear hW0
    go_wp2_with fail
    refine (HCK.out _ R0.out).mono ?_
    rintro e w1 ⟨rfl, hb1⟩
    have A1 : Hid (Below W0.heap.size W0 w1) := hb1
    have L1 : W0.heap.size ≤ w1.heap.size := hb1.size
    clear hb1 q0 q1 HCK
    go_wp2_with fail
    go_loopw [5, 6] (fun u i wr => ∃ k : Nat, k ≤ m ∧ i = .int .i64 k ∧ wr.ownsRow W0.heap.size 3 1 u (weak0 k).length ((weak0 k).flatMap encI) ∧ Below W0.heap.size W0 wr) (fun _ i _ => m - (intOf i).toNat)
    case atStart => exact ⟨0, by omega, rfl, World.ownsRow_nil _ _ _ _, A1.out⟩
    case round =>
      obtain ⟨k, hk, rfl, hown, hbel⟩ := hrel
      have OW : Hid (wr.ownsRow W0.heap.size 3 1 u5 (weak0 k).length ((weak0 k).flatMap encI)) := hown
      have AB : Hid (Below W0.heap.size W0 wr) := hbel
      have hsr := hbel.size
      obtain ⟨Q5, _, _⟩ := HK.out _ hbel
      obtain ⟨q0, q1, _⟩ := Q5.all2
      clear hown hbel Q5
      by_cases hlt : k < m
      · have HNX : Hid (weak0 (k + 1) = weak0 k ++ [(k : Int)]) := weak0_next k
        have hlen : (weak0 k).length ≤ 200 := by rw [weak0_len]; omega
        generalize weak0 k = f at *
        go_wp2_with (at_builtin; refine wpList_append_newK kI rfl _ _ rfl W0.heap.size _ f rfl (OW.out.alloc _) _ (k : Int) rfl #[.int .i64 k] rfl (0, 0) (heap_alloc_new _ _) (by simp [kI]; omega) (by unfold maxLen; omega) (by simp; omega) ?_)
        intro g c w3 hown3 hb3 _
        have O3 : Hid (w3.ownsRow W0.heap.size 3 1 (.slice (some ⟨g, 0, none⟩) (f.length + 1) c) (weak0 (k + 1)).length ((weak0 (k + 1)).flatMap encI)) := by
          show World.ownsRow _ _ _ _ _ _ _
          rw [HNX.out, flat_snoc, List.length_append]; exact hown3
        have B3 : Hid (Below W0.heap.size W0 w3) := (AB.out.alloc hsr _).trans hb3
        clear hown3 hb3 q0 q1
        go_wp2_with fail
        go_roundw
        case rel => exact ⟨k + 1, by omega, by go_num, O3.out, B3.out⟩
        case measure => simp [intOf]; omega
      · have ek : k = m := by omega
        subst ek
        have O5 : wr.ownsRow W0.heap.size 3 1 u5 k ((weak0 k).flatMap encI) := by have := OW.out; rwa [weak0_len] at this
        rcases own_shapeK O5 with ⟨rfl, h0, _⟩ | ⟨g, gc, rfl, hg, hgl, hgc, hgm, _⟩
        · subst h0
          have HZ : Hid (weakF 0 es = []) := rfl
          clear OW O5
          go_wp2_with fail
          go_loopw [7] (fun i wx => i = .int .i64 0 ∧ Below W0.heap.size W0 wx) (fun _ _ => 0)
          case atStart => exact ⟨rfl, AB.out⟩
          case round =>
            obtain ⟨rfl, hbel⟩ := hrel
            obtain ⟨Q6, be, _⟩ := HK.out _ hbel
            have BE : Hid (Below w.heap.size w wr) := be
            clear q0 q1
            obtain ⟨q0, q1, _⟩ := Q6.all2
            clear Q6 be hbel
            go_wp2_with fail
            exact HP.out _ _ (by rw [HZ.out]; exact World.ownsRow_nil _ _ _ _) BE.out
        · have OG : Hid (wr.ownsRow W0.heap.size 3 1 (.slice (some ⟨g, 0, none⟩) k gc) k ((weak0 k).flatMap encI)) := O5
          unfold maxLen at hgm
          clear OW O5
          go_wp2_with fail
          go_loopw [7] (fun i wr => ∃ t : Nat, t ≤ k ∧ i = .int .i64 t ∧ wr.ownsRow W0.heap.size 3 1 (.slice (some ⟨g, 0, none⟩) k gc) k ((rnds wkS es t (weak0 k)).flatMap encI) ∧ Below W0.heap.size W0 wr) (fun i _ => k - (intOf i).toNat)
          case atStart => exact ⟨0, by omega, rfl, OG.out, AB.out⟩
          case round =>
            obtain ⟨t, ht, rfl, hown, hbel⟩ := hrel
            have OQ : Hid (wr.ownsRow W0.heap.size 3 1 (.slice (some ⟨g, 0, none⟩) k gc) k ((rnds wkS es t (weak0 k)).flatMap encI)) := hown
            have AQ : Hid (Below W0.heap.size W0 wr) := hbel
            clear q0 q1
            obtain ⟨Q6, _, _⟩ := HK.out _ hbel
            obtain ⟨q0, q1, _⟩ := Q6.all2
            clear hown hbel Q6
            by_cases hltt : t < k
            · have HNX : Hid (rnds wkS es (t + 1) (weak0 k) = es.foldl wkS (rnds wkS es t (weak0 k))) := rnds_next _ _ _ _
              have HLN : Hid ((rnds wkS es t (weak0 k)).length = k) := by
                have : ∀ l : List Int, l.length = k → (rnds wkS es t l).length = k := fun l hl => rnds_keep (I := fun l : List Int => l.length = k) (fun l e _ hl => by rw [wkS_len]; exact hl) t hl
                exact this _ (weak0_len k)
              generalize rnds wkS es t (weak0 k) = l0 at *
              go_wp2_with fail
              go_loopw [8] (fun i wr => ∃ j : Nat, j ≤ es.length ∧ i = .int .i64 j ∧ wr.ownsRow W0.heap.size 3 1 (.slice (some ⟨g, 0, none⟩) k gc) k (((es.take j).foldl wkS l0).flatMap encI) ∧ Below W0.heap.size W0 wr) (fun i _ => es.length - (intOf i).toNat)
              case atStart => exact ⟨0, by omega, rfl, OQ.out, AQ.out⟩
              case round =>
                obtain ⟨j, hj, rfl, hown, hbel⟩ := hrel
                have OZ : Hid (wr.ownsRow W0.heap.size 3 1 (.slice (some ⟨g, 0, none⟩) k gc) k (((es.take j).foldl wkS l0).flatMap encI)) := hown
                have AZ : Hid (Below W0.heap.size W0 wr) := hbel
                clear q0 q1
                obtain ⟨Q7, _, R7⟩ := HK.out _ hbel
                obtain ⟨q0, q1, _⟩ := Q7.all2
                clear hown hbel Q7
                by_cases hlt2 : j < es.length
                · obtain ⟨b, off, cap', e1, _, _, lt, hv⟩ := EdR.at R7 (by omega)
                  injection e1 with e1 _ e3
                  subst e1 e3
                  obtain ⟨x, hx⟩ := getE hlt2
                  obtain ⟨c1, c2, c3⟩ := hv j x hx
                  obtain ⟨g1, g2, g3, g4, g5⟩ := HG.out x (List.mem_of_getElem? hx)
                  obtain ⟨xf, hxf⟩ : ∃ xf : Nat, x.1 = xf := ⟨x.1.toNat, by omega⟩
                  obtain ⟨xt, hxt⟩ : ∃ xt : Nat, x.2.1 = xt := ⟨x.2.1.toNat, by omega⟩
                  have HSN : Hid ((es.take (j + 1)).foldl wkS l0 = wkS ((es.take j).foldl wkS l0) x) := by
                    show _ = _
                    rw [take_snoc hx, List.foldl_append]; rfl
                  have HLL : Hid (((es.take j).foldl wkS l0).length = k) := by show List.length _ = _; exact fold_keeps (I := fun l : List Int => l.length = k) (fun l e _ hl => by rw [wkS_len]; exact hl) HLN.out
                  rw [hxf] at c1 g1 g2
                  rw [hxt] at c2 g3 g4
                  have p0 : (0 : Int) ≤ (j : Int) := by omega
                  have p1 : (j : Int) < (es.length : Int) := by omega
                  generalize (es.take j).foldl wkS l0 = l at *
                  obtain ⟨y, hy⟩ := getX (es := l) (i := xf) (by have := HLL.out; omega)
                  have cf := own_atN OZ.out hy
                  have ff := frozenK OZ.out xf
                  obtain ⟨z, hz⟩ := getX (es := l) (i := xt) (by have := HLL.out; omega)
                  have ct := own_atN OZ.out hz
                  have ft := frozenK OZ.out xt
                  have HYA : Hid (atD l x.1 = y) := by show _ = _; rw [hxf]; exact atD_at hy
                  have HZA : Hid (atD l x.2.1 = z) := by show _ = _; rw [hxt]; exact atD_at hz
                  have HTN : Hid (x.2.1.toNat = xt) := by show _ = _; rw [hxt]; rfl
                  have HFN : Hid (x.1.toNat = xf) := by show _ = _; rw [hxf]; rfl
                  clear hv hx hxf hxt hy hz g5
                  by_cases hyz : y < z
                  · have HS2 : Hid ((es.take (j + 1)).foldl wkS l0 = l.set xt y) := by
                      show _ = _
                      rw [HSN.out]
                      unfold wkS
                      rw [HYA.out, HZA.out, if_pos hyz, HTN.out]
                    go_wp2_with fail
                    go_quiet (fail)
                    have O9 : Hid (((wr.drewN nq).setCell ⟨g, xt, none⟩ (.int .i64 y)).ownsRow W0.heap.size 3 1 (.slice (some ⟨g, 0, none⟩) k gc) k ((l.set xt y).flatMap encI)) := own_setN OZ.out
                    have A9 : Hid (Below W0.heap.size W0 ((wr.drewN nq).setCell ⟨g, xt, none⟩ (.int .i64 y))) := (below_drewN AZ.out nq).setCell hg _
                    go_wp2_with fail
                    go_roundw
                    case rel => exact ⟨j + 1, by omega, by go_num, by rw [HS2.out]; exact O9.out, A9.out⟩
                    case measure => simp [intOf]; omega
                  · have HS2 : Hid ((es.take (j + 1)).foldl wkS l0 = l.set xf z) := by
                      show _ = _
                      rw [HSN.out]
                      unfold wkS
                      rw [HYA.out, HZA.out, if_neg hyz, HFN.out]
                    go_wp2_with fail
                    go_quiet (fail)
                    have O9 : Hid (((wr.drewN nq).setCell ⟨g, xf, none⟩ (.int .i64 z)).ownsRow W0.heap.size 3 1 (.slice (some ⟨g, 0, none⟩) k gc) k ((l.set xf z).flatMap encI)) := own_setN OZ.out
                    have A9 : Hid (Below W0.heap.size W0 ((wr.drewN nq).setCell ⟨g, xf, none⟩ (.int .i64 z))) := (below_drewN AZ.out nq).setCell hg _
                    go_wp2_with fail
                    go_roundw
                    case rel => exact ⟨j + 1, by omega, by go_num, by rw [HS2.out]; exact O9.out, A9.out⟩
                    case measure => simp [intOf]; omega
                · have ek : es.take j = es := List.take_of_length_le (by omega)
                  rw [ek, ← HNX.out] at OZ
                  clear ek
                  go_wp2_with fail
                  go_roundw
                  case rel => exact ⟨t + 1, by omega, by go_num, OZ.out, AZ.out⟩
                  case measure => simp [intOf]; omega
            · have ek : t = k := by omega
              rw [ek, ← HRF.out] at OQ
              clear ek
              have OE : Hid (wr.ownsRow w.heap.size 3 1 (.slice (some ⟨g, 0, none⟩) k gc) (weakF k es).length ((weakF k es).flatMap encI)) := by
                show World.ownsRow _ _ _ _ _ _ _
                rw [HRL.out]
                exact own_lower OQ.out (by omega)
              have BE : Hid (Below w.heap.size w wr) := (HK.out _ AQ.out).2.1
              go_wp2_with fail
              exact HP.out _ _ OE.out BE.out
  · have hne : (faultE n es != 0) = true := by simpa using hf
    have HP : Hid (∀ w', Below w.heap.size w w' → NumP w (faultE n es) (weakF n.toNat es) (.returned (.tuple #[.slice none 0 0, .int .i64 (faultE n es)])) w') := fun w' h2 => NumP.no hf h2
    generalize NumP w (faultE n es) (weakF n.toNat es) = P at *
    generalize faultE n es = fe at *
    clear hf
    go_enter Try.func15, Try.ntmps15
    go_upto_region 1 with fail
    rw [← hW0]
    clear hW0
    go_wp2_with fail
    refine (HCK.out _ R0.out).mono ?_
    rintro e w1 ⟨rfl, hb1⟩
    have B1 : Hid (Below w.heap.size w w1) := (HK.out _ hb1).2.1
    clear hb1 q0 q1 HCK
    go_wp2_with fail
    exact HP.out _ B1.out
end Go.Proofs.Ytankibadiomkkaa
