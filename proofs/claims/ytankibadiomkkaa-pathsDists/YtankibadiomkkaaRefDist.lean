/-
  Contract of the document's own DistOf.
-/
import Derived.Test.YtankibadiomkkaaPathLists
import Derived.Test.YtankibadiomkkaaIntRow
import Derived.Test.YtankibadiomkkaaFaultWalk
import Derived.Test.YtankibadiomkkaaBoxMem
import Derived.Test.YtankibadiomkkaaPathErr
import Derived.Test.YtankibadiomkkaaRefIn
import Derived.Deep.CutRange
import Derived.Deep.QuietTactic
import Derived.BigQuiet
import Derived.BigRegion
namespace Go.Proofs.Ytankibadiomkkaa
set_option maxRecDepth 100000
open Go.ChangeShapes Go.WideShapes Go.ChangeAt Go.RowKit

/-- Numbers of the rounds behind q edges. -/
def BdD (m q : Nat) (l : List Int) : Prop := ∀ v : Int, 0 ≤ v ∧ v < (m : Int) → -1 ≤ atD l v ∧ atD l v ≤ (q : Int) * 1099511627776
theorem BdD.mono {m q r : Nat} {l : List Int} (h : BdD m q l) (hr : q ≤ r) : BdD m r l := fun v hv => by
  have := h v hv
  omega
theorem BdD.step {m q : Nat} {l : List Int} {e : Ed} (h : BdD m q l) (hl : l.length = m) (he : 0 ≤ e.1 ∧ e.1 < (m : Int) ∧ 0 ≤ e.2.1 ∧ e.2.1 < (m : Int) ∧ 0 ≤ e.2.2 ∧ e.2.2 ≤ 1099511627776) : BdD m (q + 1) (rlx l e) := fun v hv => by
  have := rlx_bd hl h he v hv
  omega
theorem dist0_bd {m : Nat} {s : Int} (hs : 0 ≤ s ∧ s < (m : Int)) : BdD m 0 (dist0 m s) := fun v hv => by
  unfold dist0
  rw [atD_set (by simp) hs hv]
  split
  · omega
  · rw [rep_at]; omega

set_option maxHeartbeats 4000000 in
set_option maxRecDepth 100000 in
theorem distOf_any (v : Value) (es : List Ed) (n s : Int) (w : World) (h : EdR w v es) :
    Calls Try.prog 11 #[.agg #[.int .i64 n, v], .int .i64 s] w (NumP w (errV n es s) (distF n.toNat es s)) := by
  have HR : Hid (EdR w v es) := h
  obtain ⟨a, cap, rfl, hca, hma, _, _⟩ := h
  unfold maxLen at hma
  have HCK : Hid (∀ X, EdR X (.slice a es.length cap) es → Calls Try.prog 26 #[.agg #[.int .i64 n, .slice a es.length cap]] X fun e w' => e = .returned (.int .i64 (faultE n es)) ∧ Below X.heap.size X w') := fun X hX => fault_walk _ es n X hX
  obtain ⟨W0, hW0⟩ : ∃ W0, W0 = w.alloc (.cells #[.int .i64 n, .slice a es.length cap] 24) := ⟨_, rfl⟩
  have Q0 : BX 24 W0 w.heap.size #[.int .i64 n, .slice a es.length cap] := by rw [hW0]; exact BX.new _ _ _
  have BH : Hid (Below w.heap.size w W0) := by show Below _ _ _; rw [hW0]; exact below_alloc _ _
  have s1 : w.heap.size + 1 ≤ W0.heap.size := by rw [hW0]; simp
  have HK : Hid (∀ X, Below W0.heap.size W0 X → BX 24 X w.heap.size #[.int .i64 n, .slice a es.length cap] ∧ Below w.heap.size w X ∧ EdR X (.slice a es.length cap) es) := fun X hX => ⟨Q0.below hX (by omega), BH.out.trans (hX.mono (by omega)), HR.out.below (BH.out.trans (hX.mono (by omega))) (Nat.le_refl _)⟩
  have R0 : Hid (EdR W0 (.slice a es.length cap) es) := HR.out.below BH.out (Nat.le_refl _)
  obtain ⟨q0, q1, _⟩ := Q0.all2
  clear Q0
  by_cases hf : faultE n es = 0
  · obtain ⟨hn0, hn1, hle, hgd⟩ := fault_ok hf
    rw [hf] at HCK
    have CI : Hid (∀ X, Calls Try.prog 27 #[.int .i64 s, .int .i64 0, .int .i64 (n - 1)] X fun e w' => e = .returned (.bool (decide (0 ≤ s ∧ s < n))) ∧ w' = X) := fun X => by
      have := in_any s 0 (n - 1) X
      rwa [inB_v] at this
    have wn : IntKind.i64.wrap (n - 1) = n - 1 := wrap_id64 (by omega) (by omega)
    by_cases hs : 0 ≤ s ∧ s < n
    · rw [errV_ok hf hs]
      rw [decide_eq_true hs] at CI
      obtain ⟨m, rfl⟩ : ∃ m : Nat, n = m := ⟨n.toNat, by omega⟩
      obtain ⟨sv, rfl⟩ : ∃ m : Nat, s = m := ⟨s.toNat, by omega⟩
      rw [Int.toNat_natCast]
      have HG : Hid (∀ e ∈ es, 0 ≤ e.1 ∧ e.1 < (m : Int) ∧ 0 ≤ e.2.1 ∧ e.2.1 < (m : Int) ∧ 0 ≤ e.2.2 ∧ e.2.2 ≤ 1099511627776) := fun e he => in_of_out (hgd e he)
      have HP : Hid (∀ v (w' : World), w'.ownsRow w.heap.size 3 1 v (distF m es sv).length ((distF m es sv).flatMap encI) → Below w.heap.size w w' → NumP w 0 (distF m es sv) (.returned (.tuple #[v, .int .i64 0])) w') := fun v w' h1 h2 => NumP.yes h1 h2
      have HRF : Hid (distF m es sv = rnds rlx es m (dist0 m sv)) := rfl
      have HRL : Hid ((distF m es sv).length = m) := (dist_ok (in_fault hf) ⟨by omega, by omega⟩).1
      have HB0 : Hid (BdD m 0 (dist0 m sv)) := dist0_bd ⟨by omega, by omega⟩
      have hsm : sv < m := by omega
      generalize NumP w 0 (distF m es sv) = P at *
      clear hf hgd hs
      go_enter Try.func11, Try.ntmps11
      go_upto_region 1 with fail
      rw [← hW0]
      clear hW0
      go_wp2_with fail
      refine (HCK.out _ R0.out).mono ?_
      rintro e w1 ⟨rfl, hb1⟩
      have A1 : Hid (Below W0.heap.size W0 w1) := hb1
      have L1 : W0.heap.size ≤ w1.heap.size := hb1.size
      clear hb1 q0 q1 HCK
      obtain ⟨Q1, _, _⟩ := HK.out _ A1.out
      obtain ⟨q0, q1, _⟩ := Q1.all2
      clear Q1
      go_wp2_with fail
      refine (CI.out _).mono ?_
      rintro e w2 ⟨rfl, hw⟩
      replace hw := hw.symm
      subst hw
      clear q0 q1 CI
      go_wp2_with fail
      go_loopw [7, 8] (fun u i wr => ∃ k : Nat, k ≤ m ∧ i = .int .i64 k ∧ wr.ownsRow W0.heap.size 3 1 u (List.replicate k (-1 : Int)).length ((List.replicate k (-1 : Int)).flatMap encI) ∧ Below W0.heap.size W0 wr) (fun _ i _ => m - (intOf i).toNat)
      case atStart => exact ⟨0, by omega, rfl, World.ownsRow_nil _ _ _ _, A1.out⟩
      case round =>
        obtain ⟨k, hk, rfl, hown, hbel⟩ := hrel
        have OW : Hid (wr.ownsRow W0.heap.size 3 1 u7 (List.replicate k (-1 : Int)).length ((List.replicate k (-1 : Int)).flatMap encI)) := hown
        have AB : Hid (Below W0.heap.size W0 wr) := hbel
        have hsr := hbel.size
        obtain ⟨Q5, _, _⟩ := HK.out _ hbel
        obtain ⟨q0, q1, _⟩ := Q5.all2
        clear hown hbel Q5
        by_cases hlt : k < m
        · have HNX : Hid (List.replicate (k + 1) (-1 : Int) = List.replicate k (-1 : Int) ++ [-1]) := List.replicate_succ'
          have hlen : (List.replicate k (-1 : Int)).length ≤ 200 := by rw [List.length_replicate]; omega
          generalize List.replicate k (-1 : Int) = f at *
          go_wp2_with (at_builtin; refine wpList_append_newK kI rfl _ _ rfl W0.heap.size _ f rfl (OW.out.alloc _) _ (-1 : Int) rfl #[.int .i64 (-1)] rfl (0, 0) (heap_alloc_new _ _) (by simp [kI]; omega) (by unfold maxLen; omega) (by simp; omega) ?_)
          intro g c w3 hown3 hb3 _
          have O3 : Hid (w3.ownsRow W0.heap.size 3 1 (.slice (some ⟨g, 0, none⟩) (f.length + 1) c) (List.replicate (k + 1) (-1 : Int)).length ((List.replicate (k + 1) (-1 : Int)).flatMap encI)) := by
            show World.ownsRow _ _ _ _ _ _ _
            rw [HNX.out, flat_snoc, List.length_append]; exact hown3
          have B3 : Hid (Below W0.heap.size W0 w3) := (AB.out.alloc hsr _).trans hb3
          clear hown3 hb3 q0 q1
          go_wp2_with fail
          go_roundw
          case rel => exact ⟨k + 1, by omega, by go_num, O3.out, B3.out⟩
          case measure => simp [intOf]; omega
        · have ek : k = m := by omega
          subst ek
          have O5 : wr.ownsRow W0.heap.size 3 1 u7 k ((List.replicate k (-1 : Int)).flatMap encI) := by have := OW.out; rwa [List.length_replicate] at this
          rcases own_shapeK O5 with ⟨rfl, h0, _⟩ | ⟨g, gc, rfl, hg, hgl, hgc, hgm, _⟩
          · omega
          · unfold maxLen at hgm
            have c5 := own_atN O5 (i := sv) (x := -1) (by rw [List.getElem?_replicate, if_pos hsm])
            have f5 := frozenK O5 sv
            have i0 : (0 : Int) ≤ (sv : Int) := by omega
            have i1 : (sv : Int) < (k : Int) := by omega
            have O6 : Hid ((wr.setCell ⟨g, sv, none⟩ (.int .i64 0)).ownsRow W0.heap.size 3 1 (.slice (some ⟨g, 0, none⟩) k gc) k ((dist0 k sv).flatMap encI)) := by
              show World.ownsRow _ _ _ _ _ _ _
              have := own_setN (j := sv) (x := 0) O5
              unfold dist0
              rwa [Int.toNat_natCast]
            have A6 : Hid (Below W0.heap.size W0 (wr.setCell ⟨g, sv, none⟩ (.int .i64 0))) := AB.out.setCell hg _
            clear OW O5
            go_upto_region 12 with fail
            clear c5 f5 q0 q1
            generalize wr.setCell ⟨g, sv, none⟩ (.int .i64 0) = W6 at *
            go_wp2_with fail
            go_loopw [9] (fun i wx => ∃ t : Nat, t ≤ k ∧ i = .int .i64 t ∧ wx.ownsRow W0.heap.size 3 1 (.slice (some ⟨g, 0, none⟩) k gc) k ((rnds rlx es t (dist0 k sv)).flatMap encI) ∧ BdD k (t * 600) (rnds rlx es t (dist0 k sv)) ∧ Below W0.heap.size W0 wx) (fun i _ => k - (intOf i).toNat)
            case atStart => exact ⟨0, by omega, rfl, O6.out, HB0.out.mono (Nat.zero_le _), A6.out⟩
            case round =>
              obtain ⟨t, ht, rfl, hown, hbd, hbel⟩ := hrel
              have OQ : Hid (wr.ownsRow W0.heap.size 3 1 (.slice (some ⟨g, 0, none⟩) k gc) k ((rnds rlx es t (dist0 k sv)).flatMap encI)) := hown
              have BQ : Hid (BdD k (t * 600) (rnds rlx es t (dist0 k sv))) := hbd
              have AQ : Hid (Below W0.heap.size W0 wr) := hbel
              obtain ⟨Q6, _, _⟩ := HK.out _ hbel
              obtain ⟨q0, q1, _⟩ := Q6.all2
              clear hown hbd hbel Q6
              by_cases hltt : t < k
              · have HNX : Hid (rnds rlx es (t + 1) (dist0 k sv) = es.foldl rlx (rnds rlx es t (dist0 k sv))) := rnds_next _ _ _ _
                have HLN : Hid ((rnds rlx es t (dist0 k sv)).length = k) := by
                  have : ∀ l : List Int, l.length = k → (rnds rlx es t l).length = k := fun l hl => rnds_keep (I := fun l : List Int => l.length = k) (fun l e _ hl => by rw [rlx_len]; exact hl) t hl
                  exact this _ (dist0_len k sv)
                generalize rnds rlx es t (dist0 k sv) = l0 at *
                go_wp2_with fail
                go_loopw [10, 11] (fun i _ wz => ∃ j : Nat, j ≤ es.length ∧ i = .int .i64 j ∧ wz.ownsRow W0.heap.size 3 1 (.slice (some ⟨g, 0, none⟩) k gc) k (((es.take j).foldl rlx l0).flatMap encI) ∧ BdD k (t * 600 + j) ((es.take j).foldl rlx l0) ∧ Below W0.heap.size W0 wz) (fun i _ _ => es.length - (intOf i).toNat)
                case atStart => exact ⟨0, by omega, rfl, OQ.out, BQ.out, AQ.out⟩
                case round =>
                  obtain ⟨j, hj, rfl, hown, hbd, hbel⟩ := hrel
                  have OZ : Hid (wr.ownsRow W0.heap.size 3 1 (.slice (some ⟨g, 0, none⟩) k gc) k (((es.take j).foldl rlx l0).flatMap encI)) := hown
                  have BZ : Hid (BdD k (t * 600 + j) ((es.take j).foldl rlx l0)) := hbd
                  have AZ : Hid (Below W0.heap.size W0 wr) := hbel
                  have hsz := hbel.size
                  clear q0 q1
                  obtain ⟨Q7, _, R7⟩ := HK.out _ hbel
                  obtain ⟨q0, q1, _⟩ := Q7.all2
                  clear hown hbd hbel Q7
                  by_cases hlt2 : j < es.length
                  · obtain ⟨b, off, cap', e1, _, _, lt, hv⟩ := EdR.at R7 (by omega)
                    injection e1 with e1 _ e3
                    subst e1 e3
                    obtain ⟨x, hx⟩ := getE hlt2
                    obtain ⟨c1, c2, c3⟩ := hv j x hx
                    have hgx := HG.out x (List.mem_of_getElem? hx)
                    obtain ⟨xf, hxf⟩ : ∃ xf : Nat, x.1 = xf := ⟨x.1.toNat, by omega⟩
                    obtain ⟨xt, hxt⟩ : ∃ xt : Nat, x.2.1 = xt := ⟨x.2.1.toNat, by omega⟩
                    have HSN : Hid ((es.take (j + 1)).foldl rlx l0 = rlx ((es.take j).foldl rlx l0) x) := by
                      show _ = _
                      rw [take_snoc hx, List.foldl_append]; rfl
                    have HLL : Hid (((es.take j).foldl rlx l0).length = k) := by show List.length _ = _; exact fold_keeps (I := fun l : List Int => l.length = k) (fun l e _ hl => by rw [rlx_len]; exact hl) HLN.out
                    have HBN : Hid (BdD k (t * 600 + (j + 1)) ((es.take (j + 1)).foldl rlx l0)) := by
                      show BdD _ _ _
                      rw [HSN.out]
                      exact BZ.out.step HLL.out hgx
                    generalize (es.take j).foldl rlx l0 = l at *
                    have hyb := BZ.out x.1 ⟨hgx.1, hgx.2.1⟩
                    have hzb := BZ.out x.2.1 ⟨hgx.2.2.1, hgx.2.2.2.1⟩
                    obtain ⟨y, hy⟩ := getX (es := l) (i := xf) (by have := HLL.out; omega)
                    have cf := own_atN OZ.out hy
                    obtain ⟨z, hz⟩ := getX (es := l) (i := xt) (by have := HLL.out; omega)
                    have ct := own_atN OZ.out hz
                    have ft := frozenK OZ.out xt
                    have HYA : Hid (atD l x.1 = y) := by show _ = _; rw [hxf]; exact atD_at hy
                    have HZA : Hid (atD l x.2.1 = z) := by show _ = _; rw [hxt]; exact atD_at hz
                    have HTN : Hid (x.2.1.toNat = xt) := by show _ = _; rw [hxt]; rfl
                    rw [HYA.out] at hyb
                    rw [HZA.out] at hzb
                    have HRX : Hid (rlx l x = if 0 ≤ y ∧ (z < 0 ∨ y + x.2.2 < z) then l.set xt (y + x.2.2) else l) := by
                      show _ = _
                      unfold rlx
                      rw [HYA.out, HZA.out, HTN.out]
                    rw [hxf] at c1
                    rw [hxt] at c2
                    obtain ⟨xw, hxw⟩ : ∃ xw, x.2.2 = xw := ⟨_, rfl⟩
                    rw [hxw] at c3 HRX hgx
                    have wyw : IntKind.i64.wrap (y + xw) = y + xw := wrap_id64 (by omega) (by omega)
                    have gf1 : (xf : Int) < (k : Int) := by omega
                    have gf0 : (0 : Int) ≤ (xf : Int) := by omega
                    have gt1 : (xt : Int) < (k : Int) := by omega
                    have gt0 : (0 : Int) ≤ (xt : Int) := by omega
                    have p0 : (0 : Int) ≤ (j : Int) := by omega
                    have p1 : (j : Int) < (es.length : Int) := by omega
                    have hne : 0 ≤ y → (z < 0 ∨ y + xw < z) → xf ≠ xt := fun h0 h1 he => by
                      subst he
                      rw [hy] at hz
                      injection hz with hz
                      omega
                    clear hv hx hxf hxt hy hz hyb hzb hxw
                    go_upto_region 19 with fail
                    have N8 : Hid (BX 43 (wr.alloc (.cells #[.int .i64 xf, .int .i64 xt, .int .i64 xw] 43)) wr.heap.size #[.int .i64 xf, .int .i64 xt, .int .i64 xw]) := BX.new _ _ _
                    have O8 : Hid ((wr.alloc (.cells #[.int .i64 xf, .int .i64 xt, .int .i64 xw] 43)).ownsRow W0.heap.size 3 1 (.slice (some ⟨g, 0, none⟩) k gc) k (l.flatMap encI)) := OZ.out.alloc _
                    have A8 : Hid (Below W0.heap.size W0 (wr.alloc (.cells #[.int .i64 xf, .int .i64 xt, .int .i64 xw] 43))) := AZ.out.alloc hsz _
                    have d1 : (wr.alloc (.cells #[.int .i64 xf, .int .i64 xt, .int .i64 xw] 43)).cell? ⟨g, xf, none⟩ = some (.int .i64 y) := ((below_alloc wr _).cell (p := ⟨g, xf, none⟩) (World.block_lt_of_cell? wr _ cf)).trans cf
                    have d2 : (wr.alloc (.cells #[.int .i64 xf, .int .i64 xt, .int .i64 xw] 43)).cell? ⟨g, xt, none⟩ = some (.int .i64 z) := ((below_alloc wr _).cell (p := ⟨g, xt, none⟩) (World.block_lt_of_cell? wr _ ct)).trans ct
                    generalize wr.alloc (.cells #[.int .i64 xf, .int .i64 xt, .int .i64 xw] 43) = W8 at *
                    obtain ⟨e0, e1, e2, _⟩ := N8.out.all3
                    clear q0 q1 c1 c2 c3 cf ct ft
                    by_cases h0 : 0 ≤ y
                    · have a0 : y ≥ 0 := h0
                      by_cases h1 : z < 0
                      · have b1 : z < 0 := h1
                        have HS2 : Hid ((es.take (j + 1)).foldl rlx l0 = l.set xt (y + xw)) := by show _ = _; rw [HSN.out, HRX.out, if_pos (by omega)]
                        have hft : xf ≠ xt := hne h0 (by omega)
                        clear HSN HRX hne
                        go_quiet (fail)
                        have N9 : BX 43 (W8.drewN nq) wr.heap.size #[.int .i64 xf, .int .i64 xt, .int .i64 xw] := N8.out
                        have O9 : Hid ((W8.drewN nq).ownsRow W0.heap.size 3 1 (.slice (some ⟨g, 0, none⟩) k gc) k (l.flatMap encI)) := O8.out
                        have A9 : Hid (Below W0.heap.size W0 (W8.drewN nq)) := below_drewN A8.out _
                        have m1 : (W8.drewN nq).cell? ⟨g, xf, none⟩ = some (.int .i64 y) := d1
                        have m2 : (W8.drewN nq).cell? ⟨g, xt, none⟩ = some (.int .i64 z) := d2
                        clear d1 d2 e0 e1 e2
                        generalize W8.drewN nq = W9 at *
                        obtain ⟨e0, e1, e2, _⟩ := N9.all3
                        have ft := frozenK O9.out xt
                        have O10 : Hid ((W9.setCell ⟨g, xt, none⟩ (.int .i64 (y + xw))).drew.ownsRow W0.heap.size 3 1 (.slice (some ⟨g, 0, none⟩) k gc) k ((l.set xt (y + xw)).flatMap encI)) := own_setN O9.out
                        have A10 : Hid (Below W0.heap.size W0 (W9.setCell ⟨g, xt, none⟩ (.int .i64 (y + xw))).drew) := (A9.out.setCell hg _).drew
                        clear N9
                        go_wp2_with fail
                        go_region
                        go_wp2_with fail
                        go_roundw
                        case rel => exact ⟨j + 1, by omega, by go_num, by rw [HS2.out]; exact O10.out, HBN.out, A10.out⟩
                        case measure => simp [intOf]; omega
                      · have b1 : ¬ z < 0 := h1
                        have b1d : decide (z < 0) = false := by simpa using h1
                        by_cases h2 : y + xw < z
                        · have b2 : y + xw < z := h2
                          have HS2 : Hid ((es.take (j + 1)).foldl rlx l0 = l.set xt (y + xw)) := by show _ = _; rw [HSN.out, HRX.out, if_pos (by omega)]
                          have hft : xf ≠ xt := hne h0 (by omega)
                          clear HSN HRX hne
                          go_quiet (fail)
                          have N9 : BX 43 (W8.drewN nq) wr.heap.size #[.int .i64 xf, .int .i64 xt, .int .i64 xw] := N8.out
                          have O9 : Hid ((W8.drewN nq).ownsRow W0.heap.size 3 1 (.slice (some ⟨g, 0, none⟩) k gc) k (l.flatMap encI)) := O8.out
                          have A9 : Hid (Below W0.heap.size W0 (W8.drewN nq)) := below_drewN A8.out _
                          have m1 : (W8.drewN nq).cell? ⟨g, xf, none⟩ = some (.int .i64 y) := d1
                          have m2 : (W8.drewN nq).cell? ⟨g, xt, none⟩ = some (.int .i64 z) := d2
                          clear d1 d2 e0 e1 e2
                          generalize W8.drewN nq = W9 at *
                          obtain ⟨e0, e1, e2, _⟩ := N9.all3
                          have ft := frozenK O9.out xt
                          have O10 : Hid ((W9.setCell ⟨g, xt, none⟩ (.int .i64 (y + xw))).drew.ownsRow W0.heap.size 3 1 (.slice (some ⟨g, 0, none⟩) k gc) k ((l.set xt (y + xw)).flatMap encI)) := own_setN O9.out
                          have A10 : Hid (Below W0.heap.size W0 (W9.setCell ⟨g, xt, none⟩ (.int .i64 (y + xw))).drew) := (A9.out.setCell hg _).drew
                          clear N9
                          go_wp2_with fail
                          go_region
                          go_wp2_with fail
                          go_roundw
                          case rel => exact ⟨j + 1, by omega, by go_num, by rw [HS2.out]; exact O10.out, HBN.out, A10.out⟩
                          case measure => simp [intOf]; omega
                        · have b2 : ¬ y + xw < z := h2
                          have HS2 : Hid ((es.take (j + 1)).foldl rlx l0 = l) := by show _ = l; rw [HSN.out, HRX.out, if_neg (by omega)]
                          clear HSN HRX hne
                          go_quiet (fail)
                          go_wp2_with fail
                          go_roundw
                          case rel => exact ⟨j + 1, by omega, by go_num, by rw [HS2.out]; exact O8.out, HBN.out, below_drewN A8.out _⟩
                          case measure => simp [intOf]; omega
                    · have a0 : ¬ y ≥ 0 := h0
                      have a0d : decide (y ≥ 0) = false := by simpa using h0
                      have HS2 : Hid ((es.take (j + 1)).foldl rlx l0 = l) := by show _ = l; rw [HSN.out, HRX.out, if_neg (by omega)]
                      clear HSN HRX hne
                      go_quiet (fail)
                      go_wp2_with fail
                      go_roundw
                      case rel => exact ⟨j + 1, by omega, by go_num, by rw [HS2.out]; exact O8.out, HBN.out, below_drewN A8.out _⟩
                      case measure => simp [intOf]; omega
                  · have ek : es.take j = es := List.take_of_length_le (by omega)
                    rw [ek, ← HNX.out] at OZ BZ
                    clear ek
                    have B9 : Hid (BdD k ((t + 1) * 600) (rnds rlx es (t + 1) (dist0 k sv))) := BZ.out.mono (by omega)
                    go_wp2_with fail
                    go_roundw
                    case rel => exact ⟨t + 1, by omega, by go_num, OZ.out, B9.out, AZ.out⟩
                    case measure => simp [intOf]; omega
              · have ek : t = k := by omega
                rw [ek, ← HRF.out] at OQ
                clear ek
                have OE : Hid (wr.ownsRow w.heap.size 3 1 (.slice (some ⟨g, 0, none⟩) k gc) (distF k es sv).length ((distF k es sv).flatMap encI)) := by
                  show World.ownsRow _ _ _ _ _ _ _
                  rw [HRL.out]
                  exact own_lower OQ.out (by omega)
                have BE : Hid (Below w.heap.size w wr) := (HK.out _ AQ.out).2.1
                go_wp2_with fail
                exact HP.out _ _ OE.out BE.out
    · rw [errV_out hf hs]
      rw [decide_eq_false hs] at CI
      have HP : Hid (∀ w', Below w.heap.size w w' → NumP w 2 (distF n.toNat es s) (.returned (.tuple #[.slice none 0 0, .int .i64 2])) w') := fun w' h2 => NumP.no (by decide) h2
      generalize NumP w 2 (distF n.toNat es s) = P at *
      clear hf hgd hs
      go_enter Try.func11, Try.ntmps11
      go_upto_region 1 with fail
      rw [← hW0]
      clear hW0
      go_wp2_with fail
      refine (HCK.out _ R0.out).mono ?_
      rintro e w1 ⟨rfl, hb1⟩
      have A1 : Hid (Below W0.heap.size W0 w1) := hb1
      clear hb1 q0 q1 HCK
      obtain ⟨Q1, b1, _⟩ := HK.out _ A1.out
      have B1 : Hid (Below w.heap.size w w1) := b1
      obtain ⟨q0, q1, _⟩ := Q1.all2
      clear Q1 b1
      go_wp2_with fail
      refine (CI.out _).mono ?_
      rintro e w2 ⟨rfl, hw⟩
      replace hw := hw.symm
      subst hw
      go_wp2_with fail
      exact HP.out _ B1.out
  · rw [errV_bad hf]
    have hne : (faultE n es != 0) = true := by simpa using hf
    have HP : Hid (∀ w', Below w.heap.size w w' → NumP w (faultE n es) (distF n.toNat es s) (.returned (.tuple #[.slice none 0 0, .int .i64 (faultE n es)])) w') := fun w' h2 => NumP.no hf h2
    generalize NumP w (faultE n es) (distF n.toNat es s) = P at *
    generalize faultE n es = fe at *
    clear hf
    go_enter Try.func11, Try.ntmps11
    go_upto_region 1 with fail
    rw [← hW0]
    clear hW0
    go_wp2_with fail
    refine (HCK.out _ R0.out).mono ?_
    rintro e w1 ⟨rfl, hb1⟩
    have B1 : Hid (Below w.heap.size w w1) := (HK.out _ hb1).2.1
    clear hb1 q0 q1 HCK
    go_wp2_with fail
    exact HP.out _ B1.out
end Go.Proofs.Ytankibadiomkkaa
