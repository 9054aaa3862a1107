/-
  For every number, ways and two numbers a part that store.Build builds of a graph and store.Open opens has just the hops of its worker's vertices, forward and back (the law StoreBack returns true, and its arguments read as before); no condition.
-/
import Derived.Test.YtacpicnihgggaaaWayOpen
import Derived.Test.YtacpicnihgggaaaStoreBackPartC
import Derived.Test.YtacpicnihgggaaaStoreBackPartD
import Derived.WalkKit
import Derived.ProofKit
import Derived.OpenShut
import Derived.ShutString
import Derived.SizedLaws
import Derived.ChangeOld
import Derived.Below
namespace Go.Proofs.Ytacpicnihgggaaa.storeBack
set_option maxRecDepth 100000
open Go.ChangeShapes Go.WideShapes Go.ChangeAt Go.RowKit

theorem own : ownKnob Try.prog.godebug = none := by kernel_rfl
theorem laidOut : laidOutB Try.prog = true := by kernel_rfl

set_option maxHeartbeats 1000000 in
set_option maxRecDepth 100000 in
theorem walk (n0 : Int) (v1 : Value) (es1 : List Ed) (n2 : Int) (n3 : Int) (w : World) (hI0 : -9223372036854775808 ≤ n0 ∧ n0 ≤ 9223372036854775807) (hR1 : EdR w v1 es1) (hB1 : ∀ x ∈ es1, edB x) (hL1 : es1.length * 24 ≤ 140737488351232) (hI2 : -9223372036854775808 ≤ n2 ∧ n2 ≤ 9223372036854775807) (hI3 : -9223372036854775808 ≤ n3 ∧ n3 ≤ 9223372036854775807) :
    Calls Try.prog 5 #[.int .i64 n0, v1, .int .i64 n2, .int .i64 n3] w fun e w' => e = .returned (.bool true) ∧ Below w.heap.size w w' := by
  have _u := hI0
  clear _u
  have _u := hR1
  clear _u
  have _u := hB1
  clear _u
  have _u := hL1
  clear _u
  have _u := hI2
  clear _u
  have _u := hI3
  clear _u
  have HR : Hid (EdR w v1 es1) := hR1
  have p1 := pick_in n0 8 (by decide)
  have p2 := pick_in n2 4 (by decide)
  have p3 := pick_in n3 (1 + pickF n2 4) (by omega)
  have HM : Hid (∀ X, EdR X v1 es1 → Calls Try.prog 17 #[.int .i64 n0, v1, .int .i64 8] X fun e w' => ∃ v', e = .returned (.agg #[.int .i64 (1 + pickF n0 8), v']) ∧ w'.ownsRow X.heap.size 67 3 v' (madeL (1 + pickF n0 8) es1).length ((madeL (1 + pickF n0 8) es1).flatMap encE) ∧ Below X.heap.size X w') := fun X hX => made_any n0 8 v1 es1 X hX hB1 hI0 (by omega) (by omega)
  have HPX : Hid (∀ X, Calls Try.prog 18 #[.int .i64 n2, .int .i64 4] X fun e w' => e = .returned (.int .i64 (pickF n2 4)) ∧ w' = X) := fun X => picked_any n2 4 X hI2.1 hI2.2 (by omega) (by omega)
  have HPY : Hid (∀ X, Calls Try.prog 18 #[.int .i64 n3, .int .i64 (1 + pickF n2 4)] X fun e w' => e = .returned (.int .i64 (pickF n3 (1 + pickF n2 4))) ∧ w' = X) := fun X => picked_any n3 _ X hI3.1 hI3.2 (by omega) (by omega)
  have SM : Hid (Small (pickF n3 (1 + pickF n2 4)) (1 + pickF n2 4) (1 + pickF n0 8) (madeL (1 + pickF n0 8) es1)) := keep_small p3.1 p3.2
  obtain ⟨a, cap, rfl⟩ := hR1.shape
  clear hR1 hB1 hL1 hI0 hI2 hI3
  generalize madeL (1 + pickF n0 8) es1 = E at *
  have hN0 : 0 < 1 + pickF n0 8 := by omega
  have hN8 : 1 + pickF n0 8 ≤ 8 := by omega
  generalize 1 + pickF n0 8 = Ni at *
  generalize pickF n3 (1 + pickF n2 4) = Wi at *
  generalize pickF n2 4 = q4 at *
  have hK : IntKind.i64.wrap (1 + q4) = 1 + q4 := wrap_id64 (by omega) (by omega)
  obtain ⟨N, rfl⟩ : ∃ m : Nat, Ni = m := ⟨Ni.toNat, by omega⟩
  have CR : Hid (∀ X v, EdR X v E → Calls Try.prog 19 #[.agg #[.int .i64 (N : Int), v]] X fun e w' => ∃ v', e = .returned (.tuple #[.agg #[.int .i64 (N : Int), v'], .int .i64 0]) ∧ w'.ownsRow X.heap.size 67 3 v' (sortE (E.map turnE)).length ((sortE (E.map turnE)).flatMap encE) ∧ Below X.heap.size X w') := fun X v hX => by
    have := reverse_any v E N X hX
    rwa [SM.out.right, okN_yes, okL_yes] at this
  have CB := fun v X hX => build_small SM.out v X hX
  have CO := fun v X hX => open_small SM.out v X hX
  have CMN : Hid (∀ X, Calls Try.prog 20 #[.int .i64 Wi, .int .i64 (N : Int), .int .i64 (1 + q4)] X fun e w' => ∃ v', e = .returned (.tuple #[v', .int .i64 0]) ∧ w'.ownsRow X.heap.size 3 1 v' (mineL Wi.toNat (N : Int).toNat (1 + q4).toNat).length ((mineL Wi.toNat (N : Int).toNat (1 + q4).toNat).flatMap encI) ∧ Below X.heap.size X w') := fun X => by
    have := mine_any Wi N (1 + q4) X
    rwa [SM.out.mine, okL_yes] at this
  have HMI : Hid (∀ x ∈ mineL Wi.toNat (N : Int).toNat (1 + q4).toNat, 0 ≤ x ∧ x < (N : Int)) := fun x hx => by
    unfold mineL at hx
    obtain ⟨i, hi, rfl⟩ := List.mem_map.1 hx
    have h1 : i < cntO Wi.toNat (N : Int).toNat (1 + q4).toNat := by simpa using hi
    rw [cnt_more (by omega) (by omega)] at h1
    omega
  have hML := SM.out.ml
  have CH1 : Hid (∀ X v (j : Nat), j < N → EdR X v E → Calls Try.prog 21 #[.agg #[.int .i64 (N : Int), v], .int .i64 (j : Int)] X fun e w' => ∃ v, e = .returned v ∧ ∃ hv, v = .tuple #[hv, .int .i64 0] ∧ w'.ownsRow X.heap.size 87 2 hv (hopsL (sortE E) j).length ((hopsL (sortE E) j).flatMap encH) ∧ Below X.heap.size X w') := fun X v j hj hX => by
    have h1 := hops_any v E N j X hX
    rw [errH_ok SM.out.right (by simp [insB]; omega), okL_yes] at h1
    exact h1.mono fun e w' ⟨hv, he, ho, hb⟩ => ⟨_, he, hv, rfl, ho, hb⟩
  have CH2 : Hid (∀ X v (j : Nat), j < N → EdR X v (sortE (E.map turnE)) → Calls Try.prog 21 #[.agg #[.int .i64 (N : Int), v], .int .i64 (j : Int)] X fun e w' => ∃ v, e = .returned v ∧ ∃ hv, v = .tuple #[hv, .int .i64 0] ∧ w'.ownsRow X.heap.size 87 2 hv (hopsL (sortE (E.map turnE)) j).length ((hopsL (sortE (E.map turnE)) j).flatMap encH) ∧ Below X.heap.size X w') := fun X v j hj hX => by
    have h1 := hops_any v (sortE (E.map turnE)) N j X hX
    rw [errH_ok (turn_right SM.out.right) (by simp [insB]; omega), okL_yes, sort_sort] at h1
    exact h1.mono fun e w' ⟨hv, he, ho, hb⟩ => ⟨_, he, hv, rfl, ho, hb⟩
  have eho : ∀ args w, (callFunc 21 args).run Try.prog w = .ok (.enter 21 args) w := enters_of Try.func21 (by kernel_rfl) rfl
  have CBH : Hid (∀ v X, EdR X v E → Calls Try.prog 9 #[.agg #[.int .i64 (N : Int), v], .int .i64 Wi, .int .i64 (1 + q4)] X fun e w' => ∃ v', e = .returned (.tuple #[v', .int .i64 0]) ∧ w'.ownsRow X.heap.size 5 1 v' (wrap (payB Wi (1 + q4) N E)).length ((wrap (payB Wi (1 + q4) N E)).map (Value.int .u8)) ∧ Below X.heap.size X w') := CB
  have COH : Hid (∀ v X, Reads .u8 X v (wrap (payB Wi (1 + q4) N E)) → Calls Try.prog 14 #[v] X fun e w' => ∃ vo vi, e = .returned (.tuple #[.agg #[.int .i64 Wi, .int .i64 (1 + q4), .int .i64 (N : Int), vo, vi], .int .i64 0]) ∧ LsR w' vo ((mineL Wi.toNat (N : Int).toNat (1 + q4).toNat).map (hopsL (sortE E))) ∧ LsR w' vi ((mineL Wi.toNat (N : Int).toNat (1 + q4).toNat).map (hopsL (sortE (E.map turnE)))) ∧ Below X.heap.size X w') := CO
  clear CB CO SM
  generalize wrap (payB Wi (1 + q4) N E) = BS at *
  generalize mineL Wi.toNat (N : Int).toNat (1 + q4).toNat = ML at *
  generalize sortE (E.map turnE) = T at *
  generalize sortE E = S at *
  go_enter Try.func5, Try.ntmps5
  go_wp2_with fail
  refine (HM.out _ HR.out).mono ?_
  rintro e w1 ⟨va, rfl, hown1, hb1⟩
  obtain ⟨aa, ac, rfl⟩ := (RowK.own encE_len hown1).shape
  have Q1 : Hid (GX (w1.alloc (.cells #[.int .i64 (N : Int), .slice aa E.length ac] 24)) w1.heap.size N (.slice aa E.length ac) ∧ EdR (w1.alloc (.cells #[.int .i64 (N : Int), .slice aa E.length ac] 24)) (.slice aa E.length ac) E ∧ Below w.heap.size w (w1.alloc (.cells #[.int .i64 (N : Int), .slice aa E.length ac] 24))) := ⟨heap_alloc_new w1 _, (RowK.own encE_len hown1).below (below_alloc _ _) (Nat.le_refl _), hb1.alloc hb1.size _⟩
  clear hown1 hb1 HM HR
  go_upto_region 2 with fail
  generalize w1.alloc (.cells #[.int .i64 (N : Int), .slice aa E.length ac] 24) = w2 at *
  generalize w1.heap.size = GB' at *
  go_wp2_with fail
  refine (HPX.out _).mono ?_
  rintro e w3 ⟨rfl, rfl⟩
  go_wp2_with fail
  refine (HPY.out _).mono ?_
  rintro e w4 ⟨rfl, rfl⟩
  obtain ⟨c0, c1⟩ := Q1.out.1.cells
  go_wp2_with fail
  refine (CR.out w4 _ Q1.out.2.1).mono ?_
  rintro e w5 ⟨rv, rfl, hown5, hb5⟩
  obtain ⟨ra, rc, rfl⟩ := (RowK.own encE_len hown5).shape
  have Q2 : Hid (GX (w5.alloc (.cells #[.int .i64 (N : Int), .slice ra T.length rc] 24)) GB' N (.slice aa E.length ac) ∧ EdR (w5.alloc (.cells #[.int .i64 (N : Int), .slice ra T.length rc] 24)) (.slice aa E.length ac) E ∧ GX (w5.alloc (.cells #[.int .i64 (N : Int), .slice ra T.length rc] 24)) w5.heap.size N (.slice ra T.length rc) ∧ EdR (w5.alloc (.cells #[.int .i64 (N : Int), .slice ra T.length rc] 24)) (.slice ra T.length rc) T ∧ Below w.heap.size w (w5.alloc (.cells #[.int .i64 (N : Int), .slice ra T.length rc] 24))) :=
    ⟨(Q1.out.1.below hb5 (Nat.le_refl _)).below (below_alloc _ _) (Nat.le_refl _), (Q1.out.2.1.below hb5 (Nat.le_refl _)).below (below_alloc _ _) (Nat.le_refl _), heap_alloc_new w5 _, (RowK.own encE_len hown5).below (below_alloc _ _) (Nat.le_refl _), (Q1.out.2.2.trans (hb5.mono Q1.out.2.2.size)).alloc (Nat.le_trans Q1.out.2.2.size hb5.size) _⟩
  clear hown5 hb5 Q1 CR HPX HPY c0 c1
  go_upto_region 5 with fail
  generalize w5.alloc (.cells #[.int .i64 (N : Int), .slice ra T.length rc] 24) = w6 at *
  generalize w5.heap.size = RB at *
  obtain ⟨c0, c1⟩ := Q2.out.1.cells
  go_wp2_with fail
  refine (CBH.out _ w6 Q2.out.2.1).mono ?_
  rintro e w7 ⟨bv, rfl, hown7, hb7⟩
  have Q3 : Hid (GX w7 GB' N (.slice aa E.length ac) ∧ EdR w7 (.slice aa E.length ac) E ∧ GX w7 RB N (.slice ra T.length rc) ∧ EdR w7 (.slice ra T.length rc) T ∧ Below w.heap.size w w7 ∧ Reads .u8 w7 bv BS) :=
    ⟨Q2.out.1.below hb7 (Nat.le_refl _), Q2.out.2.1.below hb7 (Nat.le_refl _), Q2.out.2.2.1.below hb7 (Nat.le_refl _), Q2.out.2.2.2.1.below hb7 (Nat.le_refl _), Q2.out.2.2.2.2.trans (hb7.mono Q2.out.2.2.2.2.size), reads_own hown7⟩
  clear hown7 hb7 Q2 CBH c0 c1
  go_wp2_with fail
  refine (COH.out _ w7 Q3.out.2.2.2.2.2).mono ?_
  rintro e w8 ⟨vo, vi, rfl, ho8, hi8, hb8⟩
  obtain ⟨oa, oc, rfl⟩ : ∃ a c, vo = .slice a ML.length c := by obtain ⟨a, c, e, _⟩ := ho8; exact ⟨a, c, by rw [e, List.length_map]⟩
  obtain ⟨ia, ic, rfl⟩ : ∃ a c, vi = .slice a ML.length c := by obtain ⟨a, c, e, _⟩ := hi8; exact ⟨a, c, by rw [e, List.length_map]⟩
  have Q4 : Hid (GX (w8.alloc (.cells #[.int .i64 Wi, .int .i64 (1 + q4), .int .i64 (N : Int), .slice oa ML.length oc, .slice ia ML.length ic] 36)) GB' N (.slice aa E.length ac) ∧ EdR (w8.alloc (.cells #[.int .i64 Wi, .int .i64 (1 + q4), .int .i64 (N : Int), .slice oa ML.length oc, .slice ia ML.length ic] 36)) (.slice aa E.length ac) E ∧ GX (w8.alloc (.cells #[.int .i64 Wi, .int .i64 (1 + q4), .int .i64 (N : Int), .slice oa ML.length oc, .slice ia ML.length ic] 36)) RB N (.slice ra T.length rc) ∧ EdR (w8.alloc (.cells #[.int .i64 Wi, .int .i64 (1 + q4), .int .i64 (N : Int), .slice oa ML.length oc, .slice ia ML.length ic] 36)) (.slice ra T.length rc) T ∧ Below w.heap.size w (w8.alloc (.cells #[.int .i64 Wi, .int .i64 (1 + q4), .int .i64 (N : Int), .slice oa ML.length oc, .slice ia ML.length ic] 36)) ∧ PB (w8.alloc (.cells #[.int .i64 Wi, .int .i64 (1 + q4), .int .i64 (N : Int), .slice oa ML.length oc, .slice ia ML.length ic] 36)) w8.heap.size (.int .i64 Wi) (.int .i64 (1 + q4)) (.int .i64 (N : Int)) (.slice oa ML.length oc) (.slice ia ML.length ic) ∧ LsR (w8.alloc (.cells #[.int .i64 Wi, .int .i64 (1 + q4), .int .i64 (N : Int), .slice oa ML.length oc, .slice ia ML.length ic] 36)) (.slice oa ML.length oc) (ML.map (hopsL S)) ∧ LsR (w8.alloc (.cells #[.int .i64 Wi, .int .i64 (1 + q4), .int .i64 (N : Int), .slice oa ML.length oc, .slice ia ML.length ic] 36)) (.slice ia ML.length ic) (ML.map (hopsL T))) :=
    ⟨(Q3.out.1.below hb8 (Nat.le_refl _)).below (below_alloc _ _) (Nat.le_refl _), (Q3.out.2.1.below hb8 (Nat.le_refl _)).below (below_alloc _ _) (Nat.le_refl _), (Q3.out.2.2.1.below hb8 (Nat.le_refl _)).below (below_alloc _ _) (Nat.le_refl _), (Q3.out.2.2.2.1.below hb8 (Nat.le_refl _)).below (below_alloc _ _) (Nat.le_refl _), (Q3.out.2.2.2.2.1.trans (hb8.mono Q3.out.2.2.2.2.1.size)).alloc (Nat.le_trans Q3.out.2.2.2.2.1.size hb8.size) _, heap_alloc_new w8 _, ho8.below (below_alloc _ _) (Nat.le_refl _), hi8.below (below_alloc _ _) (Nat.le_refl _)⟩
  clear ho8 hi8 hb8 Q3 COH
  go_upto_region 7 with fail
  generalize w8.alloc (.cells #[.int .i64 Wi, .int .i64 (1 + q4), .int .i64 (N : Int), .slice oa ML.length oc, .slice ia ML.length ic] 36) = w9 at *
  generalize w8.heap.size = PX at *
  obtain ⟨c0, c1⟩ := Q4.out.1.cells
  go_wp2_with fail
  refine (CMN.out w9).mono ?_
  rintro e w10 ⟨mv, rfl, hown10, hb10⟩
  obtain ⟨ma, mc, rfl⟩ := (RowK.own encI_len hown10).shape
  have Q5 : Hid (GX w10 GB' N (.slice aa E.length ac) ∧ EdR w10 (.slice aa E.length ac) E ∧ GX w10 RB N (.slice ra T.length rc) ∧ EdR w10 (.slice ra T.length rc) T ∧ Below w.heap.size w w10 ∧ PB w10 PX (.int .i64 Wi) (.int .i64 (1 + q4)) (.int .i64 (N : Int)) (.slice oa ML.length oc) (.slice ia ML.length ic) ∧ LsR w10 (.slice oa ML.length oc) (ML.map (hopsL S)) ∧ LsR w10 (.slice ia ML.length ic) (ML.map (hopsL T)) ∧ InR w10 (.slice ma ML.length mc) ML) :=
    ⟨Q4.out.1.below hb10 (Nat.le_refl _), Q4.out.2.1.below hb10 (Nat.le_refl _), Q4.out.2.2.1.below hb10 (Nat.le_refl _), Q4.out.2.2.2.1.below hb10 (Nat.le_refl _), Q4.out.2.2.2.2.1.trans (hb10.mono Q4.out.2.2.2.2.1.size), Q4.out.2.2.2.2.2.1.kept (Kept.of (S := fun _ => False) hb10) fun h => h, Q4.out.2.2.2.2.2.2.1.below hb10 (Nat.le_refl _), Q4.out.2.2.2.2.2.2.2.below hb10 (Nat.le_refl _), RowK.own encI_len hown10⟩
  clear hown10 hb10 Q4 CMN c0 c1
  obtain ⟨c0, c1⟩ := Q5.out.1.cells
  obtain ⟨d0, d1, d2, d3, d4⟩ := Q5.out.2.2.2.2.2.1.cells
  have b1 : (Wi != Wi) = false := by simp
  have b2 : ((1 + q4) != (1 + q4)) = false := by simp
  have b3 : ((N : Int) != (N : Int)) = false := by simp
  have b4 : ((ML.length : Int) != (ML.length : Int)) = false := by simp
  have hmc : mc ≤ maxLen := by obtain ⟨_, _, e, _, h, _⟩ := Q5.out.2.2.2.2.2.2.2.2; injection e with _ _ e3; rw [e3]; exact h
  unfold maxLen at hmc
  go_wp2_with fail
  clear c0 c1 d0 d1 d2 d3 d4 b1 b2 b3 b4
  have hs10 := Q5.out.2.2.2.2.1.size
  go_loopw [20] (fun i wr => ∃ kk : Nat, kk ≤ ML.length ∧ i = .int .i64 kk ∧ Below w10.heap.size w10 wr) (fun i _ => ML.length - (intOf i).toNat)
  case atStart => exact ⟨0, by omega, rfl, Below.refl _ _⟩
  case round =>
    obtain ⟨kk, hkk, rfl, hbel⟩ := hrel
    have HB : Hid (Below w10.heap.size w10 wr) := hbel
    have hsr := hbel.size
    clear hbel
    by_cases hlt : kk < ML.length
    · obtain ⟨x, hx⟩ := getX hlt
      have hxi := HMI.out x (List.mem_of_getElem? hx)
      obtain ⟨j, rfl⟩ : ∃ j : Nat, x = j := ⟨x.toNat, by omega⟩
      have hjN : j < N := by omega
      obtain ⟨mb, mo, mc', e1, _, _, mlt, hmv⟩ := InR.at Q5.out.2.2.2.2.2.2.2.2 (by omega)
      injection e1 with e1 _ e3
      subst e1 e3
      have D1 := hmv kk (j : Int) hx
      have HX : Hid (ML[kk]? = some (j : Int)) := hx
      have i1 : (0 : Int) ≤ (kk : Int) := by omega
      have i2 : (kk : Int) < (ML.length : Int) := by omega
      have KS : Hid (∀ V, Below wr.heap.size wr V → V.cell? ⟨GB', 0, none⟩ = some (.int .i64 (N : Int)) ∧ V.cell? ⟨GB', 1, none⟩ = some (.slice aa E.length ac) ∧ V.cell? ⟨mb, mo + kk, none⟩ = some (.int .i64 (j : Int))) := fun V hV => by
        have hB : Below w10.heap.size w10 V := HB.out.trans (hV.mono hsr)
        exact ⟨(Q5.out.1.below hB (Nat.le_refl _)).cells.1, (Q5.out.1.below hB (Nat.le_refl _)).cells.2, (hB.cell (p := ⟨mb, mo + kk, none⟩) mlt).trans D1⟩
      have ER : Hid (EdR wr.drew (.slice aa E.length ac) E) := (Q5.out.2.1.below HB.out (Nat.le_refl _)).below (Below.refl _ _).drew (Nat.le_refl _)
      clear hmv hx
      go_upto_region 13 with fail
      refine wp_region_held (S := fun V => V.cell? ⟨GB', 0, none⟩ = some (.int .i64 (N : Int)) ∧ V.cell? ⟨GB', 1, none⟩ = some (.slice aa E.length ac) ∧ V.cell? ⟨mb, mo + kk, none⟩ = some (.int .i64 (j : Int))) (by kernel_rfl) ?_
      simp only [List.size_toArray, List.length_cons, List.length_nil, Nat.reduceAdd]
      refine takeH (i := 0) (v := .agg #[.int .i64 (N : Int), .slice aa E.length ac]) (d := 115) rfl rfl (by kernel_rfl) (by kernel_rfl) (by kernel_rfl) (fun _ _ _ h => h) (by rfl) (fun V hV => by obtain ⟨v1, v2, v3⟩ := hV; go_simp) (KS.out _ (Below.refl _ _).drew) ?_
      simp only [Act.put, List.setIfInBounds_toArray, List.set_cons_zero, List.set_cons_succ]
      refine takeH (i := 1) (v := .slice (some ⟨mb, mo, none⟩) ML.length mc) (d := 116) rfl rfl (by kernel_rfl) (by kernel_rfl) (by kernel_rfl) (fun _ _ _ h => h) (by rfl) (fun V hV => by obtain ⟨v1, v2, v3⟩ := hV; go_simp) (KS.out _ (Below.refl _ _).drew) ?_
      simp only [Act.put, List.setIfInBounds_toArray, List.set_cons_zero, List.set_cons_succ]
      refine takeH (i := 2) (v := .int .i64 (kk : Int)) (d := 117) rfl rfl (by kernel_rfl) (by kernel_rfl) (by kernel_rfl) (fun _ _ _ h => h) (by rfl) (fun V hV => by obtain ⟨v1, v2, v3⟩ := hV; go_simp) (KS.out _ (Below.refl _ _).drew) ?_
      simp only [Act.put, List.setIfInBounds_toArray, List.set_cons_zero, List.set_cons_succ]
      refine takeH (i := 3) (v := .pointer (some ⟨mb, mo + kk, none⟩)) (d := 118) rfl rfl (by kernel_rfl) (by kernel_rfl) (by kernel_rfl) (fun _ _ _ h => h) (by rfl) (fun V hV => by obtain ⟨v1, v2, v3⟩ := hV; go_simp) (KS.out _ (Below.refl _ _).drew) ?_
      simp only [Act.put, List.setIfInBounds_toArray, List.set_cons_zero, List.set_cons_succ]
      refine takeH (i := 4) (v := .int .i64 (j : Int)) (d := 119) rfl rfl (by kernel_rfl) (by kernel_rfl) (by kernel_rfl) (fun _ _ _ h => h) (by rfl) (fun V hV => by obtain ⟨v1, v2, v3⟩ := hV; go_simp) (KS.out _ (Below.refl _ _).drew) ?_
      simp only [Act.put, List.setIfInBounds_toArray, List.set_cons_zero, List.set_cons_succ]
      refine oneH (i := 5) rfl (by kernel_rfl) rfl (call_gets (d := 120) (f := 21) (xs := #[.tmp 115, .tmp 119]) (ats := #[24, 3]) rfl rfl eho (vs := #[.agg #[.int .i64 (N : Int), .slice aa E.length ac], .int .i64 (j : Int)]) (by simp [Act.eval]) (CH1.out _ _ j hjN ER.out) ?_)
      rintro ot wo ⟨ov, rfl, hoo, hbo⟩
      have Bo : Below wr.heap.size wr wo := below_undrew hbo
      refine ⟨KS.out _ Bo, ?_⟩
      simp only [Act.put, List.setIfInBounds_toArray, List.set_cons_zero, List.set_cons_succ]
      refine takeH (i := 6) (v := .tuple #[ov, .int .i64 0]) (d := 114) rfl rfl (by kernel_rfl) (by kernel_rfl) (by kernel_rfl) (fun _ _ _ h => h) (by rfl) (fun V hV => by obtain ⟨v1, v2, v3⟩ := hV; go_simp) (KS.out _ Bo) ?_
      simp only [Act.put, List.setIfInBounds_toArray, List.set_cons_zero, List.set_cons_succ]
      refine takeH (i := 7) (v := ov) (d := 121) rfl rfl (by kernel_rfl) (by kernel_rfl) (by kernel_rfl) (fun _ _ _ h => h) (by rfl) (fun V hV => by obtain ⟨v1, v2, v3⟩ := hV; go_simp) (KS.out _ Bo) ?_
      simp only [Act.put, List.setIfInBounds_toArray, List.set_cons_zero, List.set_cons_succ]
      refine takeH (i := 8) (v := .int .i64 0) (d := 122) rfl rfl (by kernel_rfl) (by kernel_rfl) (by kernel_rfl) (fun _ _ _ h => h) (by rfl) (fun V hV => by obtain ⟨v1, v2, v3⟩ := hV; go_simp) (KS.out _ Bo) ?_
      simp only [Act.put, List.setIfInBounds_toArray, List.set_cons_zero, List.set_cons_succ]
      refine takeH (i := 9) (v := ov) (d := 21) rfl rfl (by kernel_rfl) (by kernel_rfl) (by kernel_rfl) (fun _ _ _ h => h) (by rfl) (fun V hV => by obtain ⟨v1, v2, v3⟩ := hV; go_simp) (KS.out _ Bo) ?_
      simp only [Act.put, List.setIfInBounds_toArray, List.set_cons_zero, List.set_cons_succ]
      refine takeH (i := 10) (v := .int .i64 0) (d := 22) rfl rfl (by kernel_rfl) (by kernel_rfl) (by kernel_rfl) (fun _ _ _ h => h) (by rfl) (fun V hV => by obtain ⟨v1, v2, v3⟩ := hV; go_simp) (KS.out _ Bo) ?_
      simp only [Act.put, List.setIfInBounds_toArray, List.set_cons_zero, List.set_cons_succ]
      refine wpAnyH_done (by kernel_rfl) ?_ _
      have FO : Hid (HpR wo ov (hopsL S (j : Int))) := RowK.own encH_len hoo
      have HBo : Hid (Below w10.heap.size w10 wo) := HB.out.trans (Bo.mono hsr)
      obtain ⟨ova, ovc, rfl⟩ := FO.out.shape
      have hso := HBo.out.size
      have KT : Hid (∀ V, Below wo.heap.size wo V → V.cell? ⟨RB, 0, none⟩ = some (.int .i64 (N : Int)) ∧ V.cell? ⟨RB, 1, none⟩ = some (.slice ra T.length rc) ∧ V.cell? ⟨mb, mo + kk, none⟩ = some (.int .i64 (j : Int))) := fun V hV => by
        have hB : Below w10.heap.size w10 V := HBo.out.trans (hV.mono hso)
        exact ⟨(Q5.out.2.2.1.below hB (Nat.le_refl _)).cells.1, (Q5.out.2.2.1.below hB (Nat.le_refl _)).cells.2, (hB.cell (p := ⟨mb, mo + kk, none⟩) mlt).trans D1⟩
      have ET : Hid (EdR wo.drew (.slice ra T.length rc) T) := (Q5.out.2.2.2.1.below HBo.out (Nat.le_refl _)).below (Below.refl _ _).drew (Nat.le_refl _)
      clear hoo hbo Bo KS ER HB
      show Exit.then _ _ _ _ _
      go_upto_region 14 with fail
      refine wp_region_held (S := fun V => V.cell? ⟨RB, 0, none⟩ = some (.int .i64 (N : Int)) ∧ V.cell? ⟨RB, 1, none⟩ = some (.slice ra T.length rc) ∧ V.cell? ⟨mb, mo + kk, none⟩ = some (.int .i64 (j : Int))) (by kernel_rfl) ?_
      simp only [List.size_toArray, List.length_cons, List.length_nil, Nat.reduceAdd]
      refine takeH (i := 0) (v := .agg #[.int .i64 (N : Int), .slice ra T.length rc]) (d := 124) rfl rfl (by kernel_rfl) (by kernel_rfl) (by kernel_rfl) (fun _ _ _ h => h) (by rfl) (fun V hV => by obtain ⟨v1, v2, v3⟩ := hV; go_simp) (KT.out _ (Below.refl _ _).drew) ?_
      simp only [Act.put, List.setIfInBounds_toArray, List.set_cons_zero, List.set_cons_succ]
      refine takeH (i := 1) (v := .slice (some ⟨mb, mo, none⟩) ML.length mc) (d := 125) rfl rfl (by kernel_rfl) (by kernel_rfl) (by kernel_rfl) (fun _ _ _ h => h) (by rfl) (fun V hV => by obtain ⟨v1, v2, v3⟩ := hV; go_simp) (KT.out _ (Below.refl _ _).drew) ?_
      simp only [Act.put, List.setIfInBounds_toArray, List.set_cons_zero, List.set_cons_succ]
      refine takeH (i := 2) (v := .int .i64 (kk : Int)) (d := 126) rfl rfl (by kernel_rfl) (by kernel_rfl) (by kernel_rfl) (fun _ _ _ h => h) (by rfl) (fun V hV => by obtain ⟨v1, v2, v3⟩ := hV; go_simp) (KT.out _ (Below.refl _ _).drew) ?_
      simp only [Act.put, List.setIfInBounds_toArray, List.set_cons_zero, List.set_cons_succ]
      refine takeH (i := 3) (v := .pointer (some ⟨mb, mo + kk, none⟩)) (d := 127) rfl rfl (by kernel_rfl) (by kernel_rfl) (by kernel_rfl) (fun _ _ _ h => h) (by rfl) (fun V hV => by obtain ⟨v1, v2, v3⟩ := hV; go_simp) (KT.out _ (Below.refl _ _).drew) ?_
      simp only [Act.put, List.setIfInBounds_toArray, List.set_cons_zero, List.set_cons_succ]
      refine takeH (i := 4) (v := .int .i64 (j : Int)) (d := 128) rfl rfl (by kernel_rfl) (by kernel_rfl) (by kernel_rfl) (fun _ _ _ h => h) (by rfl) (fun V hV => by obtain ⟨v1, v2, v3⟩ := hV; go_simp) (KT.out _ (Below.refl _ _).drew) ?_
      simp only [Act.put, List.setIfInBounds_toArray, List.set_cons_zero, List.set_cons_succ]
      refine oneH (i := 5) rfl (by kernel_rfl) rfl (call_gets (d := 129) (f := 21) (xs := #[.tmp 124, .tmp 128]) (ats := #[24, 3]) rfl rfl eho (vs := #[.agg #[.int .i64 (N : Int), .slice ra T.length rc], .int .i64 (j : Int)]) (by simp [Act.eval]) (CH2.out _ _ j hjN ET.out) ?_)
      rintro it wi ⟨iv, rfl, hoi, hbi⟩
      have Bi : Below wo.heap.size wo wi := below_undrew hbi
      refine ⟨KT.out _ Bi, ?_⟩
      simp only [Act.put, List.setIfInBounds_toArray, List.set_cons_zero, List.set_cons_succ]
      refine takeH (i := 6) (v := .tuple #[iv, .int .i64 0]) (d := 123) rfl rfl (by kernel_rfl) (by kernel_rfl) (by kernel_rfl) (fun _ _ _ h => h) (by rfl) (fun V hV => by obtain ⟨v1, v2, v3⟩ := hV; go_simp) (KT.out _ Bi) ?_
      simp only [Act.put, List.setIfInBounds_toArray, List.set_cons_zero, List.set_cons_succ]
      refine takeH (i := 7) (v := iv) (d := 130) rfl rfl (by kernel_rfl) (by kernel_rfl) (by kernel_rfl) (fun _ _ _ h => h) (by rfl) (fun V hV => by obtain ⟨v1, v2, v3⟩ := hV; go_simp) (KT.out _ Bi) ?_
      simp only [Act.put, List.setIfInBounds_toArray, List.set_cons_zero, List.set_cons_succ]
      refine takeH (i := 8) (v := .int .i64 0) (d := 131) rfl rfl (by kernel_rfl) (by kernel_rfl) (by kernel_rfl) (fun _ _ _ h => h) (by rfl) (fun V hV => by obtain ⟨v1, v2, v3⟩ := hV; go_simp) (KT.out _ Bi) ?_
      simp only [Act.put, List.setIfInBounds_toArray, List.set_cons_zero, List.set_cons_succ]
      refine takeH (i := 9) (v := iv) (d := 23) rfl rfl (by kernel_rfl) (by kernel_rfl) (by kernel_rfl) (fun _ _ _ h => h) (by rfl) (fun V hV => by obtain ⟨v1, v2, v3⟩ := hV; go_simp) (KT.out _ Bi) ?_
      simp only [Act.put, List.setIfInBounds_toArray, List.set_cons_zero, List.set_cons_succ]
      refine takeH (i := 10) (v := .int .i64 0) (d := 24) rfl rfl (by kernel_rfl) (by kernel_rfl) (by kernel_rfl) (fun _ _ _ h => h) (by rfl) (fun V hV => by obtain ⟨v1, v2, v3⟩ := hV; go_simp) (KT.out _ Bi) ?_
      simp only [Act.put, List.setIfInBounds_toArray, List.set_cons_zero, List.set_cons_succ]
      refine wpAnyH_done (by kernel_rfl) ?_ _
      have FI : Hid (HpR wi iv (hopsL T (j : Int))) := RowK.own encH_len hoi
      have FO2 : Hid (HpR wi (.slice ova (hopsL S (j : Int)).length ovc) (hopsL S (j : Int))) := FO.out.below Bi (Nat.le_refl _)
      have HBi : Hid (Below w10.heap.size w10 wi) := HBo.out.trans (Bi.mono hso)
      obtain ⟨iva, ivc, rfl⟩ := FI.out.shape
      have hsi := HBi.out.size
      clear hoi hbi Bi KT ET HBo FO D1
      obtain ⟨d0, d1, d2, d3, d4⟩ := (Q5.out.2.2.2.2.2.1.kept (Kept.of (S := fun _ => False) HBi.out) fun h => h).cells
      have LO := Q5.out.2.2.2.2.2.2.1.below HBi.out (Nat.le_refl _)
      obtain ⟨lob, loo, loc, e1, _, _, _, hlo⟩ := LO.at (by simp; omega)
      injection e1 with e1' e2' e3'
      clear e2'
      subst e1' e3'
      obtain ⟨lu, l1, l2⟩ := hlo kk (hopsL S (j : Int)) (by rw [List.getElem?_map, HX.out]; rfl)
      obtain ⟨lua, luc, rfl⟩ := l2.shape
      have L2 : Hid (HpR wi (.slice lua (hopsL S (j : Int)).length luc) (hopsL S (j : Int))) := l2
      clear LO hlo l2
      show Exit.then _ _ _ _ _
      go_wp2_with fail
      refine (sameHopsK_yes _ _ (hopsL S (j : Int)) wi FO2.out L2.out).mono ?_
      rintro e w11 ⟨rfl, hb11⟩
      have HB11 : Hid (Below w10.heap.size w10 w11) := HBi.out.trans (hb11.mono hsi)
      have F11 : Hid (HpR w11 (.slice iva (hopsL T (j : Int)).length ivc) (hopsL T (j : Int))) := FI.out.below hb11 (Nat.le_refl _)
      have hs11 := HB11.out.size
      clear hb11 d0 d1 d2 d3 d4 l1 L2 FO2 FI HBi
      obtain ⟨d0, d1, d2, d3, d4⟩ := (Q5.out.2.2.2.2.2.1.kept (Kept.of (S := fun _ => False) HB11.out) fun h => h).cells
      have LI := Q5.out.2.2.2.2.2.2.2.1.below HB11.out (Nat.le_refl _)
      obtain ⟨lib, lio, lic, e1, _, _, _, hli⟩ := LI.at (by simp; omega)
      injection e1 with e1' e2' e3'
      clear e2'
      subst e1' e3'
      obtain ⟨lu, l1, l2⟩ := hli kk (hopsL T (j : Int)) (by rw [List.getElem?_map, HX.out]; rfl)
      obtain ⟨lua', luc', rfl⟩ := l2.shape
      have L2 : Hid (HpR w11 (.slice lua' (hopsL T (j : Int)).length luc') (hopsL T (j : Int))) := l2
      clear LI hli l2
      go_wp2_with fail
      refine (sameHopsK_yes _ _ (hopsL T (j : Int)) w11 F11.out L2.out).mono ?_
      rintro e w12 ⟨rfl, hb12⟩
      have HB12 : Hid (Below w10.heap.size w10 w12) := HB11.out.trans (hb12.mono hs11)
      clear hb12 d0 d1 d2 d3 d4 l1 L2 F11 HB11
      go_wp2_with fail
      go_roundw
      case rel => exact ⟨kk + 1, by omega, by go_num, HB12.out⟩
      case measure => simp [intOf]; omega
    · have B9 : Hid (Below w.heap.size w wr) := Q5.out.2.2.2.2.1.trans (HB.out.mono hs10)
      go_wp2_with fail
      go_ret
      exact ⟨rfl, B9.out⟩

set_option maxHeartbeats 400000 in
set_option maxRecDepth 100000 in
theorem lifted (os : Os) (started : os.Started) (H : Type) (enc : TypeId × Value → H) :
    ReturnsInHanded {} Try.checked os 5 .any (Rows.storeBackSpec.pre6 enc Try.prog Try.f5 Rows.storeBackRow.domain false) (Rows.storeBackSpec.post enc Try.prog Try.f5 false true false false) := by
  refine returnsInHanded_of_change_sized (C := Try.checked) own started (by kernel_rfl) Try.func5
    (ChangeSpec.witness6 (enc := enc) (C := Try.checked) false ⟨#[], #[.int .i64 0, .slice none 0 0, .int .i64 0, .int .i64 0], []⟩ 8 (by kernel_rfl) (by kernel_rfl) (by kernel_rfl) (by kernel_rfl)) ?_
  intro W base args ds gs before hval0 hW _ hsz0 _
  have hval : ∀ (j : Nat) t v, Try.f5.params[j]? = some t → args[j]? = some v → Value.okWide Try.prog W .any base t v := hval0
  have hW' := hW
  obtain ⟨p, q, hA0, hV, rfl, hfz, hnd⟩ := hW
  have hA : DataW.TrodAll enc Try.prog W 0 (fun _ => true) true Try.f5.params.toList args.toList ds p := hA0
  have hsz : (DataW.weightsEach Try.prog (Try.f5.params.toList ++ Rows.storeBackSpec.plain.varTypes Try.prog) (ds ++ gs)).all (fun x => decide (x ≤ reachBytes)) = true := hsz0
  rw [Try.params5] at hA hval hsz
  obtain ⟨v0, vs0, d0, ds0, p0, q0, hargs, rfl, rfl, h0, r0⟩ := trodAll_cons hA
  obtain ⟨v1, vs1, d1, ds1, p1, q1, rfl, rfl, rfl, h1, r1⟩ := trodAll_cons r0
  obtain ⟨v2, vs2, d2, ds2, p2, q2, rfl, rfl, rfl, h2, r2⟩ := trodAll_cons r1
  obtain ⟨v3, vs3, d3, ds3, p3, q3, rfl, rfl, rfl, h3, r3⟩ := trodAll_cons r2
  obtain ⟨rfl, rfl, rfl⟩ := trodAll_nil r3
  obtain rfl : args = #[v0, v1, v2, v3] := by cases args; simp_all
  obtain ⟨rfl, rfl⟩ := trodVars_none hV
  have k0 := h0
  have lt0 : ∀ x ∈ p0, x.block < W.heap.size := by obtain ⟨m, hm⟩ := k0; exact DataW.trod_lt m _ _ _ hm
  have k1 := h1
  have lt1 : ∀ x ∈ p1, x.block < W.heap.size := by obtain ⟨m, hm⟩ := k1; exact DataW.trod_lt m _ _ _ hm
  have hw1 : ∀ m ∈ d1.weights Try.prog 41, m ≤ reachBytes := fun m hm => by simpa using List.all_eq_true.1 hsz _ (DataW.weights_mem_each (j := 1) (t := 41) rfl rfl m hm)
  have k2 := h2
  have lt2 : ∀ x ∈ p2, x.block < W.heap.size := by obtain ⟨m, hm⟩ := k2; exact DataW.trod_lt m _ _ _ hm
  have k3 := h3
  have lt3 : ∀ x ∈ p3, x.block < W.heap.size := by obtain ⟨m, hm⟩ := k3; exact DataW.trod_lt m _ _ _ hm
  obtain ⟨n0, rfl, _, _, wf0⟩ := open_int Try.underlying3 (hval 0 3 v0 rfl rfl) h0
  have hI0 := bounds_i64 wf0
  obtain ⟨es1, hR1, hB1, hL1⟩ := open_ways (okWide_slice Try.underlying41 (hval 1 41 v1 rfl rfl)) h1 hw1
  obtain ⟨n2, rfl, _, _, wf2⟩ := open_int Try.underlying3 (hval 2 3 v2 rfl rfl) h2
  have hI2 := bounds_i64 wf2
  obtain ⟨n3, rfl, _, _, wf3⟩ := open_int Try.underlying3 (hval 3 3 v3 rfl rfl) h3
  have hI3 := bounds_i64 wf3
  clear hA0 hval0
  refine (walk n0 v1 es1 n2 n3 W hI0 hR1 hB1 hL1 hI2 hI3).mono fun e W' ⟨he, bel⟩ => ?_
  subst he
  exact ⟨_, rfl, _, _, _, [], _, [], hW', trodAll_mk1 (shut_bool Try.underlying4 _), (trodAll_cons_mk (Below.trod laidOut (by kernel_rfl) (of_decide_eq_true (by kernel_rfl)) k0 bel lt0) (trodAll_cons_mk (Below.trod laidOut (by kernel_rfl) (of_decide_eq_true (by kernel_rfl)) k1 bel lt1) (trodAll_cons_mk (Below.trod laidOut (by kernel_rfl) (of_decide_eq_true (by kernel_rfl)) k2 bel lt2) (trodAll_cons_mk (Below.trod laidOut (by kernel_rfl) (of_decide_eq_true (by kernel_rfl)) k3 bel lt3) trodAll_mk0)))), rfl, bel.frame _, fun h => by cases h⟩

theorem over : Rows.storeBackRow.holds Try.pinned (OpenSpec.ofChange Rows.storeBackSpec) :=
  OpenClaim.holds_of_wide 5 Try.f5 rfl rfl rfl rfl rfl rfl rfl ⟨rfl, rfl, rfl, rfl, rfl⟩ rfl rfl rfl rfl rfl (by kernel_rfl) Try.func5 (by kernel_rfl)
    (of_decide_eq_true (by kernel_rfl)) (by unfold Func.isWrapper; first | (rw [if_pos (by decide +kernel)]; kernel_rfl) | (rw [if_neg (by decide +kernel)]; exact ⟨rfl, rfl⟩))
    (fun os started H enc _ => lifted os started H enc)

/-- The statement. -/
theorem proved : Rows.StoreBackSaid := over
#print axioms proved
end Go.Proofs.Ytacpicnihgggaaa.storeBack
