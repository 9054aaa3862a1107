/-
  For every number, ways and number all parts that store.Build builds of a graph, and store.Open opens, have together each vertex once and each edge once forward and once back (the law StoreAll returns true, and its arguments read as before); no condition.
-/
import Derived.Test.YtacpicnihgggaaaWayOpen
import Derived.Test.YtacpicnihgggaaaStoreAllPartC
import Derived.WalkKit
import Derived.ProofKit
import Derived.OpenShut
import Derived.ShutString
import Derived.SizedLaws
import Derived.ChangeOld
import Derived.Below
namespace Go.Proofs.Ytacpicnihgggaaa.storeAll
set_option maxRecDepth 100000
open Go.ChangeShapes Go.WideShapes Go.ChangeAt Go.RowKit

theorem own : ownKnob Try.prog.godebug = none := by kernel_rfl
theorem laidOut : laidOutB Try.prog = true := by kernel_rfl

set_option maxHeartbeats 1000000 in
set_option maxRecDepth 100000 in
theorem walk (n0 : Int) (v1 : Value) (es1 : List Ed) (n2 : Int) (w : World) (hI0 : -9223372036854775808 ≤ n0 ∧ n0 ≤ 9223372036854775807) (hR1 : EdR w v1 es1) (hB1 : ∀ x ∈ es1, edB x) (hL1 : es1.length * 24 ≤ 140737488351232) (hI2 : -9223372036854775808 ≤ n2 ∧ n2 ≤ 9223372036854775807) :
    Calls Try.prog 6 #[.int .i64 n0, v1, .int .i64 n2] w fun e w' => e = .returned (.bool true) ∧ Below w.heap.size w w' := by
  have _u := hI0
  clear _u
  have _u := hR1
  clear _u
  have _u := hB1
  clear _u
  have _u := hL1
  clear _u
  have _u := hI2
  clear _u
  have HR : Hid (EdR w v1 es1) := hR1
  have p1 := pick_in n0 8 (by decide)
  have p2 := pick_in n2 4 (by decide)
  have HM : Hid (∀ X, EdR X v1 es1 → Calls Try.prog 17 #[.int .i64 n0, v1, .int .i64 8] X fun e w' => ∃ v', e = .returned (.agg #[.int .i64 (1 + pickF n0 8), v']) ∧ w'.ownsRow X.heap.size 67 3 v' (madeL (1 + pickF n0 8) es1).length ((madeL (1 + pickF n0 8) es1).flatMap encE) ∧ Below X.heap.size X w') := fun X hX => made_any n0 8 v1 es1 X hX hB1 hI0 (by omega) (by omega)
  have HPX : Hid (∀ X, Calls Try.prog 18 #[.int .i64 n2, .int .i64 4] X fun e w' => e = .returned (.int .i64 (pickF n2 4)) ∧ w' = X) := fun X => picked_any n2 4 X hI2.1 hI2.2 (by omega) (by omega)
  have SM : Hid (∀ W : Int, 0 ≤ W → W < 1 + pickF n2 4 → Small W (1 + pickF n2 4) (1 + pickF n0 8) (madeL (1 + pickF n0 8) es1)) := fun W h0 h1 => keep_small h0 h1
  obtain ⟨a, cap, rfl⟩ := hR1.shape
  clear hR1 hB1 hL1 hI0 hI2
  generalize madeL (1 + pickF n0 8) es1 = E at *
  have hN0 : 0 < 1 + pickF n0 8 := by omega
  have hN8 : 1 + pickF n0 8 ≤ 8 := by omega
  generalize 1 + pickF n0 8 = Ni at *
  generalize pickF n2 4 = q4 at *
  obtain ⟨P, rfl⟩ : ∃ m : Nat, q4 = m := ⟨q4.toNat, by omega⟩
  obtain ⟨N, rfl⟩ : ∃ m : Nat, Ni = m := ⟨Ni.toNat, by omega⟩
  have hPK : (1 : Int) + (P : Int) = ((P + 1 : Nat) : Int) := by omega
  rw [hPK] at SM
  have hw1 : IntKind.i64.wrap (1 + (P : Int)) = ((P + 1 : Nat) : Int) := by rw [wrap_id64 (by omega) (by omega)]; omega
  have hk8 : 1 ≤ P + 1 ∧ P + 1 ≤ 8 := by omega
  have SJ : Hid (∀ j : Nat, j < P + 1 → Small (j : Int) ((P + 1 : Nat) : Int) N E) := fun j hj => SM.out j (by omega) (by omega)
  have S0 := SJ.out 0 (by omega)
  have hE10 : E.length ≤ 10 := S0.few
  have HF1 : Hid (sumW (hopsL (sortE E)) N (P + 1) (P + 1) = E.length) := by show _ = _; rw [sumW_all _ hk8, sumV_edges S0.right]
  have HF2 : Hid (sumW (hopsL (sortE (E.map turnE))) N (P + 1) (P + 1) = E.length) := by show _ = _; rw [sumW_all _ hk8, sumV_edges (turn_fault S0.right), List.length_map]
  have HF3 : Hid (sumO N (P + 1) (P + 1) = N) := sum_all hk8 N
  have hln : ∀ j, (mineL j N (P + 1)).length ≤ 8 := fun j => by rw [mineL_len]; have := cnt_le (a := j) (n := N) hk8; omega
  have hs1 : ∀ v, (hopsL (sortE E) v).length ≤ 10 := fun v => by have := hops_len (sortE E) v; rw [sortE_len] at this; omega
  have hs2 : ∀ v, (hopsL (sortE (E.map turnE)) v).length ≤ 10 := fun v => by have := hops_len (sortE (E.map turnE)) v; rw [sortE_len, List.length_map] at this; omega
  have HB1 : Hid (∀ j, sumL ((mineL j N (P + 1)).map (hopsL (sortE E))) ≤ 80) := fun j => by have := sumL_map_le hs1 (mineL j N (P + 1)); have := hln j; omega
  have HB2 : Hid (∀ j, sumL ((mineL j N (P + 1)).map (hopsL (sortE (E.map turnE)))) ≤ 80) := fun j => by have := sumL_map_le hs2 (mineL j N (P + 1)); have := hln j; omega
  have HW1 : Hid (∀ j, sumW (hopsL (sortE E)) N (P + 1) j ≤ 80 * j) := fun j => sumW_le HB1.out j
  have HW2 : Hid (∀ j, sumW (hopsL (sortE (E.map turnE))) N (P + 1) j ≤ 80 * j) := fun j => sumW_le HB2.out j
  have HSL : Hid (∀ j, sumO N (P + 1) j ≤ j * N) := fun j => sum_le hk8 j
  have CBH : Hid (∀ (j : Nat) v X, j < P + 1 → EdR X v E → Calls Try.prog 9 #[.agg #[.int .i64 (N : Int), v], .int .i64 (j : Int), .int .i64 ((P + 1 : Nat) : Int)] X fun e w' => ∃ v', e = .returned (.tuple #[v', .int .i64 0]) ∧ w'.ownsRow X.heap.size 5 1 v' (wrap (payB (j : Int) ((P + 1 : Nat) : Int) N E)).length ((wrap (payB (j : Int) ((P + 1 : Nat) : Int) N E)).map (Value.int .u8)) ∧ Below X.heap.size X w') := fun j v X hj hX => build_small (SJ.out j hj) v X hX
  have COH : Hid (∀ (j : Nat) v X, j < P + 1 → Reads .u8 X v (wrap (payB (j : Int) ((P + 1 : Nat) : Int) N E)) → Calls Try.prog 14 #[v] X fun e w' => ∃ vo vi, e = .returned (.tuple #[.agg #[.int .i64 (j : Int), .int .i64 ((P + 1 : Nat) : Int), .int .i64 (N : Int), vo, vi], .int .i64 0]) ∧ LsR w' vo ((mineL j N (P + 1)).map (hopsL (sortE E))) ∧ LsR w' vi ((mineL j N (P + 1)).map (hopsL (sortE (E.map turnE)))) ∧ Below X.heap.size X w') := fun j v X hj hX => by
    have := open_small (SJ.out j hj) v X hX
    rwa [Int.toNat_natCast, Int.toNat_natCast, Int.toNat_natCast] at this
  obtain ⟨BS, hBS⟩ : ∃ f : Nat → List Int, ∀ j : Nat, wrap (payB (j : Int) ((P + 1 : Nat) : Int) N E) = f j := ⟨fun j => wrap (payB (j : Int) ((P + 1 : Nat) : Int) N E), fun _ => rfl⟩
  obtain ⟨FO, hFO⟩ : ∃ f : Nat → List (List Hp), ∀ j : Nat, (mineL j N (P + 1)).map (hopsL (sortE E)) = f j := ⟨fun j => (mineL j N (P + 1)).map (hopsL (sortE E)), fun _ => rfl⟩
  obtain ⟨FI, hFI⟩ : ∃ f : Nat → List (List Hp), ∀ j : Nat, (mineL j N (P + 1)).map (hopsL (sortE (E.map turnE))) = f j := ⟨fun j => (mineL j N (P + 1)).map (hopsL (sortE (E.map turnE))), fun _ => rfl⟩
  obtain ⟨cnt, hcnt⟩ : ∃ f : Nat → Nat, ∀ j : Nat, cntO j N (P + 1) = f j := ⟨fun j => cntO j N (P + 1), fun _ => rfl⟩
  have HL1 : Hid (∀ j, (FO j).length = cnt j) := fun j => by rw [← hFO, List.length_map, mineL_len, hcnt]
  have HL2 : Hid (∀ j, (FI j).length = cnt j) := fun j => by rw [← hFI, List.length_map, mineL_len, hcnt]
  have HC8 : Hid (∀ j, cnt j ≤ 8) := fun j => by rw [← hcnt, ← mineL_len]; exact hln j
  have N1 : Hid (∀ j, sumW (hopsL (sortE E)) N (P + 1) (j + 1) = sumW (hopsL (sortE E)) N (P + 1) j + sumL (FO j)) := fun j => by rw [sumW, hFO]
  have N2 : Hid (∀ j, sumW (hopsL (sortE (E.map turnE))) N (P + 1) (j + 1) = sumW (hopsL (sortE (E.map turnE))) N (P + 1) j + sumL (FI j)) := fun j => by rw [sumW, hFI]
  have N3 : Hid (∀ j, sumO N (P + 1) (j + 1) = sumO N (P + 1) j + cnt j) := fun j => by rw [sumO, hcnt]
  simp only [hBS] at CBH COH
  simp only [hFO] at COH HB1
  simp only [hFI] at COH HB2
  obtain ⟨s1, hz1⟩ : ∃ f : Nat → Nat, ∀ j, sumW (hopsL (sortE E)) N (P + 1) j = f j := ⟨_, fun _ => rfl⟩
  obtain ⟨s2, hz2⟩ : ∃ f : Nat → Nat, ∀ j, sumW (hopsL (sortE (E.map turnE))) N (P + 1) j = f j := ⟨_, fun _ => rfl⟩
  obtain ⟨s3, hz3⟩ : ∃ f : Nat → Nat, ∀ j, sumO N (P + 1) j = f j := ⟨_, fun _ => rfl⟩
  simp only [hz1] at HF1 HW1 N1
  simp only [hz2] at HF2 HW2 N2
  simp only [hz3] at HF3 HSL N3
  have Z1 : Hid (s1 0 = 0) := by show _ = _; rw [← hz1]; rfl
  have Z2 : Hid (s2 0 = 0) := by show _ = _; rw [← hz2]; rfl
  have Z3 : Hid (s3 0 = 0) := by show _ = _; rw [← hz3]; rfl
  clear hBS hFO hFI hcnt hz1 hz2 hz3 SM SJ S0 hln hs1 hs2
  have hPE : Hid ((1 : Int) + (P : Int) = ((P + 1 : Nat) : Int)) := hPK
  clear hPK
  generalize P + 1 = K at *
  go_enter Try.func6, Try.ntmps6
  go_wp2_with fail
  refine (HM.out _ HR.out).mono ?_
  rintro e w1 ⟨va, rfl, hown1, hb1⟩
  obtain ⟨aa, ac, rfl⟩ := (RowK.own encE_len hown1).shape
  have Q1 : Hid (GX (w1.alloc (.cells #[.int .i64 (N : Int), .slice aa E.length ac] 24)) w1.heap.size N (.slice aa E.length ac) ∧ EdR (w1.alloc (.cells #[.int .i64 (N : Int), .slice aa E.length ac] 24)) (.slice aa E.length ac) E ∧ Below w.heap.size w (w1.alloc (.cells #[.int .i64 (N : Int), .slice aa E.length ac] 24))) := ⟨heap_alloc_new w1 _, (RowK.own encE_len hown1).below (below_alloc _ _) (Nat.le_refl _), hb1.alloc hb1.size _⟩
  clear hown1 hb1 HM HR
  go_upto_region 2 with fail
  generalize w1.alloc (.cells #[.int .i64 (N : Int), .slice aa E.length ac] 24) = w2 at *
  generalize w1.heap.size = GB' at *
  go_wp2_with fail
  refine (HPX.out _).mono ?_
  rintro e w3 ⟨rfl, hw⟩
  replace hw := hw.symm
  subst hw
  clear HPX
  go_wp2_with fail
  go_loopw [9, 10, 11, 12] (fun so si sm i wr => ∃ j : Nat, j ≤ K ∧ i = .int .i64 j ∧ so = .int .i64 (s1 j : Nat) ∧ si = .int .i64 (s2 j : Nat) ∧ sm = .int .i64 (s3 j : Nat) ∧ Below w2.heap.size w2 wr) (fun _ _ _ i _ => K - (intOf i).toNat)
  case atStart => exact ⟨0, by omega, rfl, by rw [Z1.out]; rfl, by rw [Z2.out]; rfl, by rw [Z3.out]; rfl, Below.refl _ _⟩
  case round =>
    obtain ⟨j, hj, rfl, rfl, rfl, rfl, hbel⟩ := hrel
    have HB : Hid (Below w2.heap.size w2 wr) := hbel
    have hsr := hbel.size
    clear hbel
    by_cases hlt : j < K
    · obtain ⟨c0, c1⟩ := (Q1.out.1.below HB.out (Nat.le_refl _)).cells
      have b1 := HW1.out j
      have b2 := HW2.out j
      have b3 := HSL.out j
      have b4 := HC8.out j
      have b5 := HB1.out j
      have b6 := HB2.out j
      have b7 : s3 j ≤ 64 := by
        have : j * N ≤ 8 * 8 := Nat.mul_le_mul (by omega) (by omega)
        omega
      clear b3
      go_wp2_with fail
      refine (CBH.out j _ wr hlt (Q1.out.2.1.below HB.out (Nat.le_refl _))).mono ?_
      rintro e w4 ⟨bv, rfl, hown4, hb4⟩
      have R4 : Hid (Reads .u8 w4 bv (BS j)) := reads_own hown4
      have B4 : Hid (Below w2.heap.size w2 w4) := HB.out.trans (hb4.mono hsr)
      have hs4 := B4.out.size
      clear hown4 hb4 HB c0 c1
      go_wp2_with fail
      refine (COH.out j _ w4 hlt R4.out).mono ?_
      rintro e w5 ⟨vo, vi, rfl, ho, hi, hb5⟩
      obtain ⟨oa, oc, rfl⟩ : ∃ a c, vo = .slice a (cnt j) c := by obtain ⟨a, c, e, _⟩ := ho; exact ⟨a, c, by rw [e, HL1.out]⟩
      obtain ⟨ia, ic, rfl⟩ : ∃ a c, vi = .slice a (cnt j) c := by obtain ⟨a, c, e, _⟩ := hi; exact ⟨a, c, by rw [e, HL2.out]⟩
      have Q5 : Hid (Below w2.heap.size w2 (w5.alloc (.cells #[.int .i64 (j : Int), .int .i64 (K : Int), .int .i64 (N : Int), .slice oa (cnt j) oc, .slice ia (cnt j) ic] 36)) ∧ PB (w5.alloc (.cells #[.int .i64 (j : Int), .int .i64 (K : Int), .int .i64 (N : Int), .slice oa (cnt j) oc, .slice ia (cnt j) ic] 36)) w5.heap.size (.int .i64 (j : Int)) (.int .i64 (K : Int)) (.int .i64 (N : Int)) (.slice oa (cnt j) oc) (.slice ia (cnt j) ic) ∧ LsR (w5.alloc (.cells #[.int .i64 (j : Int), .int .i64 (K : Int), .int .i64 (N : Int), .slice oa (cnt j) oc, .slice ia (cnt j) ic] 36)) (.slice oa (cnt j) oc) (FO j) ∧ LsR (w5.alloc (.cells #[.int .i64 (j : Int), .int .i64 (K : Int), .int .i64 (N : Int), .slice oa (cnt j) oc, .slice ia (cnt j) ic] 36)) (.slice ia (cnt j) ic) (FI j)) :=
        ⟨(B4.out.trans (hb5.mono hs4)).alloc (Nat.le_trans hs4 hb5.size) _, heap_alloc_new w5 _, ho.below (below_alloc _ _) (Nat.le_refl _), hi.below (below_alloc _ _) (Nat.le_refl _)⟩
      clear ho hi hb5 R4 B4
      have e1 := N1.out j
      have e2 := N2.out j
      have e3 := N3.out j
      have E1 : Hid (s1 (j + 1) = s1 j + sumL (FO j)) := e1
      have E2 : Hid (s2 (j + 1) = s2 j + sumL (FI j)) := e2
      have E3 : Hid (s3 (j + 1) = s3 j + cnt j) := e3
      have F1 : Hid ((FO j).length = cnt j) := HL1.out j
      have F2 : Hid ((FI j).length = cnt j) := HL2.out j
      clear e1 e2 e3
      go_upto_region 13 with fail
      generalize w5.alloc (.cells #[.int .i64 (j : Int), .int .i64 (K : Int), .int .i64 (N : Int), .slice oa (cnt j) oc, .slice ia (cnt j) ic] 36) = w6 at *
      generalize w5.heap.size = PX at *
      generalize FO j = fo at *
      generalize FI j = fi at *
      generalize hcj : cnt j = M at *
      obtain ⟨d0, d1, d2, d3, d4⟩ := Q5.out.2.1.cells
      clear hcj
      generalize hsj1 : s1 j = x1 at *
      generalize hsj2 : s2 j = x2 at *
      generalize hsj3 : s3 j = x3 at *
      clear hsj1 hsj2 hsj3
      go_wp2_with fail
      go_loopw [9, 10, 17] (fun so si i wz => ∃ v : Nat, v ≤ M ∧ i = .int .i64 v ∧ so = .int .i64 (x1 + sumL (fo.take v) : Nat) ∧ si = .int .i64 (x2 + sumL (fi.take v) : Nat) ∧ wz = w6) (fun _ _ i _ => M - (intOf i).toNat)
      case atStart => exact ⟨0, by omega, rfl, by simp [sumL], by simp [sumL], rfl⟩
      case round =>
        obtain ⟨v, hv, rfl, rfl, rfl, hwz⟩ := hrel
        subst hwz
        have t1 := sumL_le (f := fo) v
        have t2 := sumL_le (f := fi) v
        by_cases hvl : v < M
        · obtain ⟨l1, hl1⟩ := getX (show v < fo.length by rw [F1.out]; exact hvl)
          obtain ⟨l2, hl2⟩ := getX (show v < fi.length by rw [F2.out]; exact hvl)
          have T1 : Hid (sumL (fo.take (v + 1)) = sumL (fo.take v) + l1.length) := sumL_take hl1
          have T2 : Hid (sumL (fi.take (v + 1)) = sumL (fi.take v) + l2.length) := sumL_take hl2
          have t3 := sumL_le (f := fo) (v + 1)
          have t4 := sumL_le (f := fi) (v + 1)
          have t5 : sumL (fo.take v) + l1.length ≤ 80 := by have := T1.out; omega
          have t6 : sumL (fi.take v) + l2.length ≤ 80 := by have := T2.out; omega
          obtain ⟨lob, loo, loc, e1, _, _, _, hlo⟩ := Q5.out.2.2.1.at (by rw [F1.out]; omega)
          injection e1 with e1' e2' e3'
          clear e2'
          subst e1' e3'
          obtain ⟨lu, g1, g2⟩ := hlo v l1 hl1
          obtain ⟨lua, luc, rfl⟩ := g2.shape
          obtain ⟨lib, lio, lic, e1, _, _, _, hli⟩ := Q5.out.2.2.2.at (by rw [F2.out]; omega)
          injection e1 with e1' e2' e3'
          clear e2'
          subst e1' e3'
          obtain ⟨lu', g3, g4⟩ := hli v l2 hl2
          obtain ⟨lua', luc', rfl⟩ := g4.shape
          have i1 : (0 : Int) ≤ (v : Int) := by omega
          have i2 : (v : Int) < (M : Int) := by omega
          clear hlo hli g2 g4 hl1 hl2 t1 t2 t3 t4
          generalize sumL (fo.take v) = y1 at *
          generalize sumL (fi.take v) = y2 at *
          go_wp2_with fail
          go_roundw
          case rel => exact ⟨v + 1, by omega, by go_num, by rw [T1.out]; go_num, by rw [T2.out]; go_num, trivial⟩
          case measure => simp [intOf]; omega
        · have ev : v = M := by omega
          subst ev
          have k1 : sumL (fo.take v) = sumL fo := by rw [List.take_of_length_le (by rw [F1.out]; exact Nat.le_refl _)]
          have k2 : sumL (fi.take v) = sumL fi := by rw [List.take_of_length_le (by rw [F2.out]; exact Nat.le_refl _)]
          rw [k1, k2]
          clear k1 k2 t1 t2
          generalize sumL fo = y1 at *
          generalize sumL fi = y2 at *
          have hv2 : ¬ (v : Int) < (v : Int) := by omega
          go_wp2_with fail
          go_roundw
          case rel => exact ⟨j + 1, by omega, by go_num, by rw [E1.out], by rw [E2.out], by rw [E3.out]; go_num, Q5.out.1⟩
          case measure => simp [intOf]; omega
    · have ej : j = K := by omega
      subst ej
      have B9 : Hid (Below w.heap.size w wr) := Q1.out.2.2.trans (HB.out.mono Q1.out.2.2.size)
      obtain ⟨c0, c1⟩ := (Q1.out.1.below HB.out (Nat.le_refl _)).cells
      rw [HF1.out, HF2.out, HF3.out]
      have z1 : ((N : Int) == (N : Int)) = true := by simp
      have z2 : ((E.length : Int) == (E.length : Int)) = true := by simp
      go_wp2_with fail
      go_ret
      exact ⟨ret_bool (by simp), B9.out⟩

set_option maxHeartbeats 400000 in
set_option maxRecDepth 100000 in
theorem lifted (os : Os) (started : os.Started) (H : Type) (enc : TypeId × Value → H) :
    ReturnsInHanded {} Try.checked os 6 .any (Rows.storeAllSpec.pre6 enc Try.prog Try.f6 Rows.storeAllRow.domain false) (Rows.storeAllSpec.post enc Try.prog Try.f6 false true false false) := by
  refine returnsInHanded_of_change_sized (C := Try.checked) own started (by kernel_rfl) Try.func6
    (ChangeSpec.witness6 (enc := enc) (C := Try.checked) false ⟨#[], #[.int .i64 0, .slice none 0 0, .int .i64 0], []⟩ 8 (by kernel_rfl) (by kernel_rfl) (by kernel_rfl) (by kernel_rfl)) ?_
  intro W base args ds gs before hval0 hW _ hsz0 _
  have hval : ∀ (j : Nat) t v, Try.f6.params[j]? = some t → args[j]? = some v → Value.okWide Try.prog W .any base t v := hval0
  have hW' := hW
  obtain ⟨p, q, hA0, hV, rfl, hfz, hnd⟩ := hW
  have hA : DataW.TrodAll enc Try.prog W 0 (fun _ => true) true Try.f6.params.toList args.toList ds p := hA0
  have hsz : (DataW.weightsEach Try.prog (Try.f6.params.toList ++ Rows.storeAllSpec.plain.varTypes Try.prog) (ds ++ gs)).all (fun x => decide (x ≤ reachBytes)) = true := hsz0
  rw [Try.params6] at hA hval hsz
  obtain ⟨v0, vs0, d0, ds0, p0, q0, hargs, rfl, rfl, h0, r0⟩ := trodAll_cons hA
  obtain ⟨v1, vs1, d1, ds1, p1, q1, rfl, rfl, rfl, h1, r1⟩ := trodAll_cons r0
  obtain ⟨v2, vs2, d2, ds2, p2, q2, rfl, rfl, rfl, h2, r2⟩ := trodAll_cons r1
  obtain ⟨rfl, rfl, rfl⟩ := trodAll_nil r2
  obtain rfl : args = #[v0, v1, v2] := by cases args; simp_all
  obtain ⟨rfl, rfl⟩ := trodVars_none hV
  have k0 := h0
  have lt0 : ∀ x ∈ p0, x.block < W.heap.size := by obtain ⟨m, hm⟩ := k0; exact DataW.trod_lt m _ _ _ hm
  have k1 := h1
  have lt1 : ∀ x ∈ p1, x.block < W.heap.size := by obtain ⟨m, hm⟩ := k1; exact DataW.trod_lt m _ _ _ hm
  have hw1 : ∀ m ∈ d1.weights Try.prog 41, m ≤ reachBytes := fun m hm => by simpa using List.all_eq_true.1 hsz _ (DataW.weights_mem_each (j := 1) (t := 41) rfl rfl m hm)
  have k2 := h2
  have lt2 : ∀ x ∈ p2, x.block < W.heap.size := by obtain ⟨m, hm⟩ := k2; exact DataW.trod_lt m _ _ _ hm
  obtain ⟨n0, rfl, _, _, wf0⟩ := open_int Try.underlying3 (hval 0 3 v0 rfl rfl) h0
  have hI0 := bounds_i64 wf0
  obtain ⟨es1, hR1, hB1, hL1⟩ := open_ways (okWide_slice Try.underlying41 (hval 1 41 v1 rfl rfl)) h1 hw1
  obtain ⟨n2, rfl, _, _, wf2⟩ := open_int Try.underlying3 (hval 2 3 v2 rfl rfl) h2
  have hI2 := bounds_i64 wf2
  clear hA0 hval0
  refine (walk n0 v1 es1 n2 W hI0 hR1 hB1 hL1 hI2).mono fun e W' ⟨he, bel⟩ => ?_
  subst he
  exact ⟨_, rfl, _, _, _, [], _, [], hW', trodAll_mk1 (shut_bool Try.underlying4 _), (trodAll_cons_mk (Below.trod laidOut (by kernel_rfl) (of_decide_eq_true (by kernel_rfl)) k0 bel lt0) (trodAll_cons_mk (Below.trod laidOut (by kernel_rfl) (of_decide_eq_true (by kernel_rfl)) k1 bel lt1) (trodAll_cons_mk (Below.trod laidOut (by kernel_rfl) (of_decide_eq_true (by kernel_rfl)) k2 bel lt2) trodAll_mk0))), rfl, bel.frame _, fun h => by cases h⟩

theorem over : Rows.storeAllRow.holds Try.pinned (OpenSpec.ofChange Rows.storeAllSpec) :=
  OpenClaim.holds_of_wide 6 Try.f6 rfl rfl rfl rfl rfl rfl rfl ⟨rfl, rfl, rfl, rfl, rfl⟩ rfl rfl rfl rfl rfl (by kernel_rfl) Try.func6 (by kernel_rfl)
    (of_decide_eq_true (by kernel_rfl)) (by unfold Func.isWrapper; first | (rw [if_pos (by decide +kernel)]; kernel_rfl) | (rw [if_neg (by decide +kernel)]; exact ⟨rfl, rfl⟩))
    (fun os started H enc _ => lifted os started H enc)

/-- The statement. -/
theorem proved : Rows.StoreAllSaid := over
#print axioms proved
end Go.Proofs.Ytacpicnihgggaaa.storeAll
