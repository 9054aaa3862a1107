/-
  For every number, ways and source no edge of a graph that is made of them is a short cut, and each distance is had along some edge (the law DistTight returns true, and its arguments read as before); no condition.
-/
import Derived.Test.YtankibadiomkkaaWayOpen
import Derived.Test.YtankibadiomkkaaKeepMade
import Derived.Test.YtankibadiomkkaaTightMath
import Derived.Test.YtankibadiomkkaaFaceDist
import Derived.Test.YtankibadiomkkaaFaceReach
import Derived.Test.YtankibadiomkkaaBoxMem
import Derived.WalkKit
import Derived.ProofKit
import Derived.OpenShut
import Derived.ShutString
import Derived.SizedLaws
import Derived.ChangeOld
import Derived.Below
import Derived.Deep.QuietTactic
import Derived.BigQuiet
import Derived.Lib.QuietBelow
namespace Go.Proofs.Ytankibadiomkkaa.distTight
set_option maxRecDepth 100000
open Go.ChangeShapes Go.WideShapes Go.ChangeAt Go.RowKit

theorem own : ownKnob Try.prog.godebug = none := by kernel_rfl
theorem laidOut : laidOutB Try.prog = true := by kernel_rfl

set_option maxHeartbeats 8000000 in
set_option maxRecDepth 100000 in
theorem walk (n0 : Int) (v1 : Value) (es1 : List Ed) (n2 : Int) (w : World) (hI0 : -9223372036854775808 ≤ n0 ∧ n0 ≤ 9223372036854775807) (hR1 : EdR w v1 es1) (hB1 : ∀ x ∈ es1, edB x) (hL1 : es1.length * 24 ≤ 140737488351232) (hI2 : -9223372036854775808 ≤ n2 ∧ n2 ≤ 9223372036854775807) :
    Calls Try.prog 7 #[.int .i64 n0, v1, .int .i64 n2] w fun e w' => e = .returned (.bool true) ∧ Below w.heap.size w w' := by
  have _u := hI0
  clear _u
  have _u := hR1
  clear _u
  have _u := hB1
  clear _u
  have _u := hL1
  clear _u
  have _u := hI2
  clear _u
  have HR : Hid (EdR w v1 es1) := hR1
  have HBW : Hid (∀ x ∈ es1, edB x) := hB1
  have hpb := pickF_bd n0 8 (by omega)
  have HM : Hid (∀ X, EdR X v1 es1 → Calls Try.prog 21 #[.int .i64 n0, v1, .int .i64 8] X fun e w' => ∃ v', e = .returned (.agg #[.int .i64 (1 + pickF n0 8), v']) ∧ w'.ownsRow X.heap.size 43 3 v' (madeL (1 + pickF n0 8) es1).length ((madeL (1 + pickF n0 8) es1).flatMap encE) ∧ Below X.heap.size X w') := fun X hX => made_any n0 8 _ es1 X hX HBW.out hI0 (by omega) (by omega)
  have F0 : Hid (faultE (1 + pickF n0 8) (madeL (1 + pickF n0 8) es1) = 0) := made_right (by omega) (by omega)
  have hEl := made_len (1 + pickF n0 8) es1
  have hn0 : 0 < 1 + pickF n0 8 := by omega
  have hn8 : 1 + pickF n0 8 ≤ 8 := by omega
  clear hpb hB1 hL1 hI0
  generalize madeL (1 + pickF n0 8) es1 = E at *
  generalize 1 + pickF n0 8 = N at *
  obtain ⟨m, rfl⟩ : ∃ m : Nat, N = m := ⟨N.toNat, by omega⟩
  have hm0 : 0 < m := by omega
  have HG : Hid (InG m E) := in_fault F0.out
  have CP : Hid (∀ X, Calls Try.prog 22 #[.int .i64 n2, .int .i64 m] X fun e w' => e = .returned (.int .i64 (pickF n2 m)) ∧ w' = X) := fun X => picked_any n2 m X hI2.1 hI2.2 hn0 (by omega)
  have CR : Hid (∀ X v (k : Nat), k < m → EdR X v E → Calls Try.prog 16 #[.agg #[.int .i64 m, v], .int .i64 k] X fun e w' => ∃ v', e = .returned (.tuple #[v', .int .i64 0]) ∧ BlR w' v' (reachF m E k) ∧ Below X.heap.size X w') := fun X v k hk hX => by
    have h1 := pReach_any v E m k X hX
    rw [errV_ok F0.out ⟨by omega, by omega⟩, Int.toNat_natCast] at h1
    exact h1.mono (fun e w' ⟨v', h2, h3, h4⟩ => ⟨v', h2, BlR.ownd h3, h4⟩)
  have CD : Hid (∀ X v (k : Nat), k < m → EdR X v E → Calls Try.prog 10 #[.agg #[.int .i64 m, v], .int .i64 k] X fun e w' => ∃ v', e = .returned (.tuple #[v', .int .i64 0]) ∧ InR w' v' (distF m E k) ∧ Below X.heap.size X w') := fun X v k hk hX => by
    have h1 := pDist_any v E m k X hX
    rw [errV_ok F0.out ⟨by omega, by omega⟩, Int.toNat_natCast] at h1
    exact h1.mono (fun e w' ⟨v', h2, h3, h4⟩ => ⟨v', h2, RowK.own encI_len h3, h4⟩)
  have hpv := pickF_bd n2 m hn0
  generalize pickF n2 m = pv0 at *
  obtain ⟨pv, rfl⟩ : ∃ pv : Nat, pv0 = pv := ⟨pv0.toNat, by omega⟩
  have hpm : pv < m := by omega
  have hps : 0 ≤ (pv : Int) ∧ (pv : Int) < (m : Int) := by omega
  have HWT : ∀ e ∈ E, e.2.2 ≤ 1099511627776 := fun e he => (in_of_out ((fault_ok F0.out).2.2.2 e he)).2.2.2.2.2
  have HLD : Hid ((distF m E pv).length = m) := (dist_ok HG.out hps).1
  have HLR : Hid ((reachF m E pv).length = m) := reach_len HG.out hps
  have HD0 : Hid (atD (distF m E pv) (pv : Int) = 0) := dist_src0 HG.out hps
  have HDB : Hid (∀ v : Nat, v < m → atD (distF m E pv) (v : Int) ≤ 8796093022208) := fun v hv => by
    have := dist_bound HG.out HWT hps (v := (v : Int)) ⟨by omega, by omega⟩
    omega
  have HDE : Hid (∀ e ∈ E, 0 ≤ atD (distF m E pv) e.1 → 0 ≤ atD (distF m E pv) e.2.1 ∧ atD (distF m E pv) e.2.1 ≤ atD (distF m E pv) e.1 + e.2.2) := fun e he h => dist_edge HG.out hps he h
  have HGW : Hid (∀ e ∈ E, 0 ≤ e.1 ∧ e.1 < (m : Int) ∧ 0 ≤ e.2.1 ∧ e.2.1 < (m : Int) ∧ 0 ≤ e.2.2 ∧ e.2.2 ≤ 1099511627776) := fun e he => in_of_out ((fault_ok F0.out).2.2.2 e he)
  have HRD : Hid (∀ v : Nat, v < m → (0 ≤ atD (distF m E pv) (v : Int) ↔ atB (reachF m E pv) (v : Int) = true)) := fun v hv => by
    rw [dist_iff HG.out hps ⟨by omega, by omega⟩, reach_at HG.out hps ⟨by omega, by omega⟩]
  have HHD : Hid (∀ v : Nat, v < m → atB (reachF m E pv) (v : Int) = true → atB (E.foldl (hadS (distF m E pv)) (reach0 m pv)) (v : Int) = true) := fun v hv h => had_ok HG.out hps ⟨by omega, by omega⟩ ((reach_at HG.out hps ⟨by omega, by omega⟩).1 h)
  have dmm : ((m : Int) != (m : Int)) = false := by simp
  clear F0 hpv HWT hps HG
  generalize hDD : distF m E pv = D at *
  generalize hRR : reachF m E pv = RR at *
  have CR2 : Hid (∀ X v, EdR X v E → Calls Try.prog 16 #[.agg #[.int .i64 m, v], .int .i64 pv] X fun e w' => ∃ v', e = .returned (.tuple #[v', .int .i64 0]) ∧ BlR w' v' RR ∧ Below X.heap.size X w') := fun X v hX => by
    have := CR.out X v pv hpm hX
    rwa [hRR] at this
  have CD2 : Hid (∀ X v, EdR X v E → Calls Try.prog 10 #[.agg #[.int .i64 m, v], .int .i64 pv] X fun e w' => ∃ v', e = .returned (.tuple #[v', .int .i64 0]) ∧ InR w' v' D ∧ Below X.heap.size X w') := fun X v hX => by
    have := CD.out X v pv hpm hX
    rwa [hDD] at this
  clear CR hRR CD hDD
  obtain ⟨a, cap, rfl⟩ := hR1.shape
  clear hR1 hI2
  go_enter Try.func7, Try.ntmps7
  go_wp2_with fail
  refine (HM.out _ HR.out).mono ?_
  rintro e w1 ⟨va, rfl, hown1, hb1⟩
  have R1 : EdR w1 va E := RowK.own encE_len hown1
  obtain ⟨aa, ac, rfl, hac, ham, _, _⟩ := R1
  unfold maxLen at ham
  have RE : Hid (EdR w1 (.slice aa E.length ac) E) := RowK.own encE_len hown1
  have B1 : Hid (Below w.heap.size w w1) := hb1
  clear hown1 hb1 HM
  go_upto_region 2 with fail
  have N1 : BX 24 (w1.alloc (.cells #[.int .i64 m, .slice aa E.length ac] 24)) w1.heap.size #[.int .i64 m, .slice aa E.length ac] := BX.new _ _ _
  have A1 : Below w1.heap.size w1 (w1.alloc (.cells #[.int .i64 m, .slice aa E.length ac] 24)) := below_alloc _ _
  generalize w1.alloc (.cells #[.int .i64 m, .slice aa E.length ac] 24) = W1 at *
  have hl1 := N1.lt
  have HK : Hid (∀ X, Below W1.heap.size W1 X → BX 24 X w1.heap.size #[.int .i64 m, .slice aa E.length ac] ∧ Below w.heap.size w X ∧ EdR X (.slice aa E.length ac) E) := fun X hX => ⟨N1.below hX hl1, B1.out.trans ((A1.trans (hX.mono A1.size)).mono B1.out.size), RE.out.below (A1.trans (hX.mono A1.size)) (Nat.le_refl _)⟩
  generalize w1.heap.size = gq at *
  obtain ⟨q0, q1, _⟩ := N1.all2
  have RW : Hid (EdR W1 (.slice aa E.length ac) E) := (HK.out _ (Below.refl _ _)).2.2
  clear N1 A1
  go_wp2_with fail
  refine (CP.out _).mono ?_
  rintro e w2 ⟨rfl, hw⟩
  replace hw := hw.symm
  subst hw
  go_wp2_with fail
  refine (CD2.out _ _ RW.out).mono ?_
  rintro e W2 ⟨v2, rfl, hr2, hb2⟩
  have A2 : Hid (Below W1.heap.size W1 W2) := hb2
  obtain ⟨db, dq, dc, rfl, hdc, hdm, ltd, hcd⟩ := hr2.row HLD.out hm0
  have HCD : Hid (∀ X, Below W2.heap.size W2 X → ∀ i : Nat, i < m → X.cell? ⟨db, dq + i, none⟩ = some (.int .i64 (atD D (i : Int)))) := fun X hX i hi => (hX.cell (p := ⟨db, dq + i, none⟩) ltd).trans (hcd i hi)
  clear hr2 hb2 hcd q0 q1
  obtain ⟨Q2, _, E2⟩ := HK.out _ A2.out
  have S2 : Hid (EdR W2 (.slice aa E.length ac) E) := E2
  obtain ⟨q0, q1, _⟩ := Q2.all2
  clear Q2 E2
  go_wp2_with fail
  refine (CR2.out _ _ S2.out).mono ?_
  rintro e W3 ⟨v3, rfl, hr3, hb3⟩
  have A3 : Hid (Below W2.heap.size W2 W3) := hb3
  obtain ⟨rb, rq, rc, rfl, hrc, hrm, ltr, hcr⟩ := hr3.row HLR.out hm0
  have L3 : W2.heap.size ≤ W3.heap.size := hb3.size
  have HK3 : Hid (∀ X, Below W3.heap.size W3 X → BX 24 X gq #[.int .i64 m, .slice aa E.length ac] ∧ Below w.heap.size w X ∧ EdR X (.slice aa E.length ac) E ∧ (∀ i : Nat, i < m → X.cell? ⟨db, dq + i, none⟩ = some (.int .i64 (atD D (i : Int)))) ∧ ∀ i : Nat, i < m → X.cell? ⟨rb, rq + i, none⟩ = some (.bool (atB RR (i : Int)))) := fun X hX => by
    have h1 := A3.out.trans (hX.mono L3)
    have h2 := HK.out X (A2.out.trans (h1.mono A2.out.size))
    exact ⟨h2.1, h2.2.1, h2.2.2, HCD.out X h1, fun i hi => (hX.cell (p := ⟨rb, rq + i, none⟩) ltr).trans (hcr i hi)⟩
  clear hr3 hb3 hcr q0 q1 HK HCD A2 A3 S2
  obtain ⟨Q3, _, _, c3, _⟩ := HK3.out _ (Below.refl _ _)
  obtain ⟨q0, q1, _⟩ := Q3.all2
  have cs := c3 pv hpm
  rw [HD0.out] at cs
  have s0 : (0 : Int) ≤ (pv : Int) := by omega
  have s1' : (pv : Int) < (m : Int) := by omega
  clear Q3 c3
  obtain ⟨w4, hmk, ho4, hb4⟩ := make_bools W3 m (by omega)
  have k4 := own_atB ho4 (i := pv) (x := false) (by rw [List.getElem?_replicate, if_pos (by omega)])
  have f4 := frozenK ho4 pv
  have HST : Hid ((w4.setCell ⟨W3.heap.size, pv, none⟩ (.bool true)).ownsRow W3.heap.size 4 1 (.slice (some ⟨W3.heap.size, 0, none⟩) m m) m ((reach0 m pv).flatMap encT)) := by
    show World.ownsRow _ _ _ _ _ _ _
    have := own_setB (j := pv) (x := true) ho4
    unfold reach0
    rwa [Int.toNat_natCast]
  have HAS : Hid (Below W3.heap.size W3 (w4.setCell ⟨W3.heap.size, pv, none⟩ (.bool true))) := hb4.setCell (Nat.le_refl _) _
  clear ho4 hb4
  go_upto_region 9 with fail
  clear k4 f4 hmk q0 q1 cs
  generalize w4.setCell ⟨W3.heap.size, pv, none⟩ (.bool true) = W4 at *
  go_wp2_with fail
  go_loopw [14, 15, 16] (fun i _ _ wx => ∃ j : Nat, j ≤ E.length ∧ i = .int .i64 j ∧ wx.ownsRow W3.heap.size 4 1 (.slice (some ⟨W3.heap.size, 0, none⟩) m m) m (((E.take j).foldl (hadS D) (reach0 m pv)).flatMap encT) ∧ Below W3.heap.size W3 wx) (fun i _ _ _ => E.length - (intOf i).toNat)
  case atStart => exact ⟨0, by omega, rfl, HST.out, HAS.out⟩
  case round =>
    obtain ⟨j, hj, rfl, hown, hbel⟩ := hrel
    have OW : Hid (wr.ownsRow W3.heap.size 4 1 (.slice (some ⟨W3.heap.size, 0, none⟩) m m) m (((E.take j).foldl (hadS D) (reach0 m pv)).flatMap encT)) := hown
    have A5 : Hid (Below W3.heap.size W3 wr) := hbel
    have hs5 := hbel.size
    obtain ⟨Q5, b5, R5, C5, D5⟩ := HK3.out _ hbel
    have B5 : Hid (Below w.heap.size w wr) := b5
    obtain ⟨q0, q1, _⟩ := Q5.all2
    clear hown hbel Q5 b5
    by_cases hlt : j < E.length
    · obtain ⟨eb, eo, ecap, e1, _, _, lt, hv⟩ := EdR.at R5 (by omega)
      injection e1 with e1 _ e3
      subst e1 e3
      obtain ⟨x, hx⟩ := getE hlt
      obtain ⟨c1, c2, c3⟩ := hv j x hx
      have hxm := List.mem_of_getElem? hx
      obtain ⟨g1, g2, g3, g4, g5, g6⟩ := HGW.out x hxm
      have hde := HDE.out x hxm
      have HSN : Hid ((E.take (j + 1)).foldl (hadS D) (reach0 m pv) = hadS D ((E.take j).foldl (hadS D) (reach0 m pv)) x) := by
        show _ = _
        rw [take_snoc hx, List.foldl_append]; rfl
      have HLL : Hid (((E.take j).foldl (hadS D) (reach0 m pv)).length = m) := by show List.length _ = _; exact had_len _ _ (reach0_len m pv)
      generalize (E.take j).foldl (hadS D) (reach0 m pv) = l at *
      obtain ⟨xf, hxf⟩ : ∃ xf : Nat, x.1 = xf := ⟨x.1.toNat, by omega⟩
      obtain ⟨xt, hxt⟩ : ∃ xt : Nat, x.2.1 = xt := ⟨x.2.1.toNat, by omega⟩
      obtain ⟨xw, hxw⟩ : ∃ xw, x.2.2 = xw := ⟨_, rfl⟩
      have HHS : Hid (hadS D l x = if atD D (xf : Int) < 0 then l else l.set xt (atB l (xt : Int) || (atD D (xt : Int) == atD D (xf : Int) + xw))) := by
        show _ = _
        unfold hadS
        rw [hxf, hxt, hxw]
        rfl
      rw [hxf] at c1 g1 g2 hde
      rw [hxt] at c2 g3 g4 hde
      rw [hxw] at c3 g5 g6 hde
      have d1 := C5 xf (by omega)
      have d2 := C5 xt (by omega)
      have db1 := HDB.out xf (by omega)
      obtain ⟨y, hy⟩ := getX (es := l) (i := xt) (by have := HLL.out; omega)
      have ch := own_atB OW.out hy
      have HYA : Hid (atB l (xt : Int) = y) := atB_at hy
      have p0 : (0 : Int) ≤ (j : Int) := by omega
      have p1 : (j : Int) < (E.length : Int) := by omega
      rw [HYA.out] at HHS
      generalize atD D (xf : Int) = df at *
      generalize atD D (xt : Int) = dt at *
      have wdf : 0 ≤ df → IntKind.i64.wrap (df + xw) = df + xw := fun h => wrap_id64 (by omega) (by omega)
      clear hv hx hxm hxf hxt hxw hy C5 D5 R5
      go_upto_region 13 with fail
      have N6 : Hid (BX 43 (wr.alloc (.cells #[.int .i64 xf, .int .i64 xt, .int .i64 xw] 43)) wr.heap.size #[.int .i64 xf, .int .i64 xt, .int .i64 xw]) := BX.new _ _ _
      have O6 : Hid ((wr.alloc (.cells #[.int .i64 xf, .int .i64 xt, .int .i64 xw] 43)).ownsRow W3.heap.size 4 1 (.slice (some ⟨W3.heap.size, 0, none⟩) m m) m (l.flatMap encT)) := OW.out.alloc _
      have A6 : Hid (Below W3.heap.size W3 (wr.alloc (.cells #[.int .i64 xf, .int .i64 xt, .int .i64 xw] 43))) := A5.out.alloc hs5 _
      have HC6 : Hid (∀ X, Below (wr.alloc (.cells #[.int .i64 xf, .int .i64 xt, .int .i64 xw] 43)).heap.size (wr.alloc (.cells #[.int .i64 xf, .int .i64 xt, .int .i64 xw] 43)) X → BX 43 X wr.heap.size #[.int .i64 xf, .int .i64 xt, .int .i64 xw] ∧ X.cell? ⟨db, dq + xf, none⟩ = some (.int .i64 df) ∧ X.cell? ⟨db, dq + xt, none⟩ = some (.int .i64 dt) ∧ X.cell? ⟨W3.heap.size, xt, none⟩ = some (.bool y)) := fun X hX => by
        have ha := below_alloc wr (.cells #[.int .i64 xf, .int .i64 xt, .int .i64 xw] 43)
        have hX' := ha.trans (hX.mono ha.size)
        refine ⟨N6.out.below hX N6.out.lt, (hX'.cell (p := ⟨db, dq + xf, none⟩) (World.block_lt_of_cell? wr _ d1)).trans d1, (hX'.cell (p := ⟨db, dq + xt, none⟩) (World.block_lt_of_cell? wr _ d2)).trans d2, (hX'.cell (p := ⟨W3.heap.size, xt, none⟩) (World.block_lt_of_cell? wr _ ch)).trans ch⟩
      generalize wr.alloc (.cells #[.int .i64 xf, .int .i64 xt, .int .i64 xw] 43) = W6 at *
      generalize wr.heap.size = xq at *
      obtain ⟨NX, k1, k2, k3⟩ := HC6.out _ (Below.refl _ _)
      obtain ⟨e0, e1, e2, _⟩ := NX.all3
      clear q0 q1 c1 c2 c3 d1 d2 ch NX
      by_cases h0 : df < 0
      · have HS2 : Hid ((E.take (j + 1)).foldl (hadS D) (reach0 m pv) = l) := by show _ = l; rw [HSN.out, HHS.out, if_pos h0]
        clear HSN HHS wdf hde
        go_wp2_with fail
        go_roundw
        case rel => exact ⟨j + 1, by omega, by go_num, by rw [HS2.out]; exact O6.out, A6.out⟩
        case measure => simp [intOf]; omega
      · have wd := wdf (by omega)
        obtain ⟨z1, z2⟩ := hde (by omega)
        have t1 : ¬ dt < 0 := by omega
        have t2 : ¬ dt > df + xw := by omega
        clear wdf hde z1 z2
        have HS3 : Hid ((E.take (j + 1)).foldl (hadS D) (reach0 m pv) = l.set xt (y || (dt == df + xw))) := by show _ = _; rw [HSN.out, HHS.out, if_neg h0]
        clear HSN HHS
        go_wp2_with fail
        go_quiet (fail)
        have A7 : Hid (Below W3.heap.size W3 (W6.drewN nq)) := below_drewN A6.out _
        have O7 : Hid ((W6.drewN nq).ownsRow W3.heap.size 4 1 (.slice (some ⟨W3.heap.size, 0, none⟩) m m) m (l.flatMap encT)) := O6.out
        obtain ⟨NY, l1, l2, l3⟩ := HC6.out (W6.drewN nq) (below_drewN (Below.refl _ _) _)
        clear e0 e1 e2 k1 k2 k3
        generalize W6.drewN nq = W7 at *
        obtain ⟨e0, e1, e2, _⟩ := NY.all3
        have ft := frozenK O7.out xt
        clear NY
        go_upto_region 17 with fail
        have O8 : Hid (∀ b, ((W7.setCell ⟨W3.heap.size, xt, none⟩ (.bool b)).drew).ownsRow W3.heap.size 4 1 (.slice (some ⟨W3.heap.size, 0, none⟩) m m) m ((l.set xt b).flatMap encT)) := fun b => own_setB O7.out
        have A8 : Hid (∀ b, Below W3.heap.size W3 ((W7.setCell ⟨W3.heap.size, xt, none⟩ (.bool b)).drew)) := fun b => (A7.out.setCell (Nat.le_refl _) _).drew
        cases y
        · cases hq : (dt == df + xw)
          · rw [hq] at HS3
            go_region
            go_wp2_with fail
            go_roundw
            case rel => exact ⟨j + 1, by omega, by go_num, by rw [HS3.out]; exact O8.out _, A8.out _⟩
            case measure => simp [intOf]; omega
          · rw [hq] at HS3
            go_region
            go_wp2_with fail
            go_roundw
            case rel => exact ⟨j + 1, by omega, by go_num, by rw [HS3.out]; exact O8.out _, A8.out _⟩
            case measure => simp [intOf]; omega
        · go_region
          go_wp2_with fail
          go_roundw
          case rel => exact ⟨j + 1, by omega, by go_num, by rw [HS3.out]; exact O8.out _, A8.out _⟩
          case measure => simp [intOf]; omega
    · have ek : E.take j = E := List.take_of_length_le (by omega)
      rw [ek] at OW
      clear ek R5 C5 D5
      have HLH : Hid ((E.foldl (hadS D) (reach0 m pv)).length = m) := by show List.length _ = _; exact had_len _ _ (reach0_len m pv)
      generalize E.foldl (hadS D) (reach0 m pv) = HD at *
      obtain ⟨V5, rfl⟩ : ∃ V, V = wr := ⟨wr, rfl⟩
      have HK5 : Hid (∀ X, Below V5.heap.size V5 X → BX 24 X gq #[.int .i64 m, .slice aa E.length ac] ∧ Below w.heap.size w X ∧ (∀ i : Nat, i < m → X.cell? ⟨db, dq + i, none⟩ = some (.int .i64 (atD D (i : Int)))) ∧ (∀ i : Nat, i < m → X.cell? ⟨rb, rq + i, none⟩ = some (.bool (atB RR (i : Int)))) ∧ ∀ i : Nat, i < m → X.cell? ⟨W3.heap.size, i, none⟩ = some (.bool (atB HD (i : Int)))) := fun X hX => by
        have h1 := HK3.out X (A5.out.trans (hX.mono hs5))
        refine ⟨h1.1, h1.2.1, h1.2.2.2.1, h1.2.2.2.2, fun i hi => ?_⟩
        obtain ⟨y, hy⟩ := getX (es := HD) (i := i) (by have := HLH.out; omega)
        rw [atB_at hy]
        have hc := own_atB OW.out hy
        exact (hX.cell (p := ⟨W3.heap.size, i, none⟩) (World.block_lt_of_cell? V5 _ hc)).trans hc
      clear HK3 OW B5 A5
      go_wp2_with fail
      go_loopw [17] (fun i wx => ∃ k : Nat, k ≤ m ∧ i = .int .i64 k ∧ Below V5.heap.size V5 wx) (fun i _ => m - (intOf i).toNat)
      case atStart => exact ⟨0, by omega, rfl, Below.refl _ _⟩
      case round =>
        obtain ⟨k, hk, rfl, hbel⟩ := hrel
        have A7 : Hid (Below V5.heap.size V5 wr) := hbel
        obtain ⟨Q7, b7, C7, R7, H7⟩ := HK5.out _ hbel
        have B7 : Hid (Below w.heap.size w wr) := b7
        clear q0 q1
        obtain ⟨q0, q1, _⟩ := Q7.all2
        clear hbel Q7 b7
        by_cases hltk : k < m
        · have ck := C7 k hltk
          have rk := R7 k hltk
          have hk7 := H7 k hltk
          have hrd := HRD.out k hltk
          have hhd := HHD.out k hltk
          have k0 : (0 : Int) ≤ (k : Int) := by omega
          have k1 : (k : Int) < (m : Int) := by omega
          clear C7 R7 H7
          generalize atD D (k : Int) = dk at *
          cases hR : atB RR (k : Int)
          · rw [hR] at rk hrd
            have t0 : ¬ dk ≥ 0 := fun h => by have := hrd.1 h; cases this
            have t0d : decide (dk ≥ 0) = false := by simpa using t0
            clear hrd hhd hR
            generalize atB HD (k : Int) = hd at *
            go_wp2_with fail
            go_quiet (fail)
            go_wp2_with fail
            go_roundw
            case rel => exact ⟨k + 1, by omega, by go_num, below_drewN A7.out _⟩
            case measure => simp [intOf]; omega
          · rw [hhd hR] at hk7
            rw [hR] at rk hrd
            have t0 : dk ≥ 0 := hrd.2 rfl
            have t0d : decide (dk ≥ 0) = true := by simpa using t0
            clear hrd hhd hR
            go_wp2_with fail
            go_quiet (fail)
            go_wp2_with fail
            go_roundw
            case rel => exact ⟨k + 1, by omega, by go_num, below_drewN A7.out _⟩
            case measure => simp [intOf]; omega
        · go_wp2_with fail
          go_ret
          exact ⟨rfl, B7.out⟩

set_option maxHeartbeats 400000 in
set_option maxRecDepth 100000 in
theorem lifted (os : Os) (started : os.Started) (H : Type) (enc : TypeId × Value → H) :
    ReturnsInHanded {} Try.checked os 7 .any (Rows.distTightSpec.pre6 enc Try.prog Try.f7 Rows.distTightRow.domain false) (Rows.distTightSpec.post enc Try.prog Try.f7 false true false false) := by
  refine returnsInHanded_of_change_sized (C := Try.checked) own started (by kernel_rfl) Try.func7
    (ChangeSpec.witness6 (enc := enc) (C := Try.checked) false ⟨#[], #[.int .i64 0, .slice none 0 0, .int .i64 0], []⟩ 8 (by kernel_rfl) (by kernel_rfl) (by kernel_rfl) (by kernel_rfl)) ?_
  intro W base args ds gs before hval0 hW _ hsz0 _
  have hval : ∀ (j : Nat) t v, Try.f7.params[j]? = some t → args[j]? = some v → Value.okWide Try.prog W .any base t v := hval0
  have hW' := hW
  obtain ⟨p, q, hA0, hV, rfl, hfz, hnd⟩ := hW
  have hA : DataW.TrodAll enc Try.prog W 0 (fun _ => true) true Try.f7.params.toList args.toList ds p := hA0
  have hsz : (DataW.weightsEach Try.prog (Try.f7.params.toList ++ Rows.distTightSpec.plain.varTypes Try.prog) (ds ++ gs)).all (fun x => decide (x ≤ reachBytes)) = true := hsz0
  rw [Try.params7] at hA hval hsz
  obtain ⟨v0, vs0, d0, ds0, p0, q0, hargs, rfl, rfl, h0, r0⟩ := trodAll_cons hA
  obtain ⟨v1, vs1, d1, ds1, p1, q1, rfl, rfl, rfl, h1, r1⟩ := trodAll_cons r0
  obtain ⟨v2, vs2, d2, ds2, p2, q2, rfl, rfl, rfl, h2, r2⟩ := trodAll_cons r1
  obtain ⟨rfl, rfl, rfl⟩ := trodAll_nil r2
  obtain rfl : args = #[v0, v1, v2] := by cases args; simp_all
  obtain ⟨rfl, rfl⟩ := trodVars_none hV
  have k0 := h0
  have lt0 : ∀ x ∈ p0, x.block < W.heap.size := by obtain ⟨m, hm⟩ := k0; exact DataW.trod_lt m _ _ _ hm
  have k1 := h1
  have lt1 : ∀ x ∈ p1, x.block < W.heap.size := by obtain ⟨m, hm⟩ := k1; exact DataW.trod_lt m _ _ _ hm
  have hw1 : ∀ m ∈ d1.weights Try.prog 39, m ≤ reachBytes := fun m hm => by simpa using List.all_eq_true.1 hsz _ (DataW.weights_mem_each (j := 1) (t := 39) rfl rfl m hm)
  have k2 := h2
  have lt2 : ∀ x ∈ p2, x.block < W.heap.size := by obtain ⟨m, hm⟩ := k2; exact DataW.trod_lt m _ _ _ hm
  obtain ⟨n0, rfl, _, _, wf0⟩ := open_int Try.underlying3 (hval 0 3 v0 rfl rfl) h0
  have hI0 := bounds_i64 wf0
  obtain ⟨es1, hR1, hB1, hL1⟩ := open_ways (okWide_slice Try.underlying39 (hval 1 39 v1 rfl rfl)) h1 hw1
  obtain ⟨n2, rfl, _, _, wf2⟩ := open_int Try.underlying3 (hval 2 3 v2 rfl rfl) h2
  have hI2 := bounds_i64 wf2
  clear hA0 hval0
  refine (walk n0 v1 es1 n2 W hI0 hR1 hB1 hL1 hI2).mono fun e W' ⟨he, bel⟩ => ?_
  subst he
  exact ⟨_, rfl, _, _, _, [], _, [], hW', trodAll_mk1 (shut_bool Try.underlying4 _), (trodAll_cons_mk (Below.trod laidOut (by kernel_rfl) (of_decide_eq_true (by kernel_rfl)) k0 bel lt0) (trodAll_cons_mk (Below.trod laidOut (by kernel_rfl) (of_decide_eq_true (by kernel_rfl)) k1 bel lt1) (trodAll_cons_mk (Below.trod laidOut (by kernel_rfl) (of_decide_eq_true (by kernel_rfl)) k2 bel lt2) trodAll_mk0))), rfl, bel.frame _, fun h => by cases h⟩

theorem over : Rows.distTightRow.holds Try.pinned (OpenSpec.ofChange Rows.distTightSpec) :=
  OpenClaim.holds_of_wide 7 Try.f7 rfl rfl rfl rfl rfl rfl rfl ⟨rfl, rfl, rfl, rfl, rfl⟩ rfl rfl rfl rfl rfl (by kernel_rfl) Try.func7 (by kernel_rfl)
    (of_decide_eq_true (by kernel_rfl)) (by unfold Func.isWrapper; first | (rw [if_pos (by decide +kernel)]; kernel_rfl) | (rw [if_neg (by decide +kernel)]; exact ⟨rfl, rfl⟩))
    (fun os started H enc _ => lifted os started H enc)

/-- The statement. -/
theorem proved : Rows.DistTightSaid := over
#print axioms proved
end Go.Proofs.Ytankibadiomkkaa.distTight
