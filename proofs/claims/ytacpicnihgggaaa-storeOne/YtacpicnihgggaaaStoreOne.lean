/-
  For every number, ways, three numbers and a bool a part of which one byte behind its length was changed is refused by store.Open with ErrSum, and one that is torn with ErrShort (the law StoreOne returns true, and its arguments read as before); no condition.
-/
import Derived.Test.YtacpicnihgggaaaWayOpen
import Derived.Test.YtacpicnihgggaaaStoreOnePartC
import Derived.WalkKit
import Derived.ProofKit
import Derived.OpenShut
import Derived.ShutString
import Derived.SizedLaws
import Derived.ChangeOld
import Derived.Below
import Derived.Deep.RegionWith
namespace Go.Proofs.Ytacpicnihgggaaa.storeOne
set_option maxRecDepth 100000
open Go.ChangeShapes Go.WideShapes Go.ChangeAt Go.RowKit

theorem own : ownKnob Try.prog.godebug = none := by kernel_rfl
theorem laidOut : laidOutB Try.prog = true := by kernel_rfl

set_option maxHeartbeats 1000000 in
set_option maxRecDepth 100000 in
theorem walk (n0 : Int) (v1 : Value) (es1 : List Ed) (n2 : Int) (n3 : Int) (n4 : Int) (t5 : Bool) (w : World) (hI0 : -9223372036854775808 ≤ n0 ∧ n0 ≤ 9223372036854775807) (hR1 : EdR w v1 es1) (hB1 : ∀ x ∈ es1, edB x) (hL1 : es1.length * 24 ≤ 140737488351232) (hI2 : -9223372036854775808 ≤ n2 ∧ n2 ≤ 9223372036854775807) (hI3 : -9223372036854775808 ≤ n3 ∧ n3 ≤ 9223372036854775807) (hI4 : -9223372036854775808 ≤ n4 ∧ n4 ≤ 9223372036854775807) :
    Calls Try.prog 7 #[.int .i64 n0, v1, .int .i64 n2, .int .i64 n3, .int .i64 n4, .bool t5] w fun e w' => e = .returned (.bool true) ∧ Below w.heap.size w w' := by
  have _u := hI0
  clear _u
  have _u := hR1
  clear _u
  have _u := hB1
  clear _u
  have _u := hL1
  clear _u
  have _u := hI2
  clear _u
  have _u := hI3
  clear _u
  have _u := hI4
  clear _u
  have HR : Hid (EdR w v1 es1) := hR1
  have p1 := pick_in n0 8 (by decide)
  have p2 := pick_in n2 4 (by decide)
  have HM : Hid (∀ X, EdR X v1 es1 → Calls Try.prog 17 #[.int .i64 n0, v1, .int .i64 8] X fun e w' => ∃ v', e = .returned (.agg #[.int .i64 (1 + pickF n0 8), v']) ∧ w'.ownsRow X.heap.size 67 3 v' (madeL (1 + pickF n0 8) es1).length ((madeL (1 + pickF n0 8) es1).flatMap encE) ∧ Below X.heap.size X w') := fun X hX => made_any n0 8 v1 es1 X hX hB1 hI0 (by omega) (by omega)
  have HPX : Hid (∀ X, Calls Try.prog 18 #[.int .i64 n2, .int .i64 4] X fun e w' => e = .returned (.int .i64 (pickF n2 4)) ∧ w' = X) := fun X => picked_any n2 4 X hI2.1 hI2.2 (by omega) (by omega)
  have SM : Hid (Small 0 (1 + pickF n2 4) (1 + pickF n0 8) (madeL (1 + pickF n0 8) es1)) := keep_small (by omega) (by omega)
  obtain ⟨a, cap, rfl⟩ := hR1.shape
  clear hR1 hB1 hL1 hI0 hI2
  generalize madeL (1 + pickF n0 8) es1 = E at *
  have hN0 : 0 < 1 + pickF n0 8 := by omega
  have hN8 : 1 + pickF n0 8 ≤ 8 := by omega
  generalize 1 + pickF n0 8 = Ni at *
  generalize pickF n2 4 = q4 at *
  have hK : IntKind.i64.wrap (1 + q4) = 1 + q4 := wrap_id64 (by omega) (by omega)
  obtain ⟨N, rfl⟩ : ∃ m : Nat, Ni = m := ⟨Ni.toNat, by omega⟩
  have CBH : Hid (∀ v X, EdR X v E → Calls Try.prog 9 #[.agg #[.int .i64 (N : Int), v], .int .i64 0, .int .i64 (1 + q4)] X fun e w' => ∃ v', e = .returned (.tuple #[v', .int .i64 0]) ∧ w'.ownsRow X.heap.size 5 1 v' (wrap (payB 0 (1 + q4) N E)).length ((wrap (payB 0 (1 + q4) N E)).map (Value.int .u8)) ∧ Below X.heap.size X w') := fun v X hX => build_small SM.out v X hX
  have XP : Hid (∀ x ∈ payB 0 (1 + q4) N E, 0 ≤ x ∧ x ≤ 255) := payB_bytes SM.out.right SM.out.mine
  have hpl := SM.out.pay
  have hp3 := payB_pos 0 (1 + q4) N E
  clear SM
  generalize payB 0 (1 + q4) N E = p at *
  have hpp := put_len (p.length : Int)
  have hwl := wrap_len p
  have XW : Hid (∀ x ∈ wrap p, 0 ≤ x ∧ x ≤ 255) := wrap_bytes XP.out (by omega)
  have HU : Hid (∀ (i : Nat) (y : Int), (put (p.length : Int)).length ≤ i → i < (wrap p).length → 0 ≤ y ∧ y ≤ 255 → y ≠ (wrap p).getD i 0 → openF ((wrap p).set i y) = (noP, 5)) := fun i y h0 h1 h2 h3 => open_err (unwrapF_changed XP.out (by omega) h0 h1 h2 h3) (by decide)
  have HT : Hid (∀ c : Nat, c < (wrap p).length → openF ((wrap p).take c) = (noP, 4)) := fun c hc => open_err (unwrapF_torn4 (by omega) hc) (by decide)
  have HGET : Hid (get (wrap p) = ((p.length : Int), (put (p.length : Int)).length, 0)) := by
    show _ = _
    unfold wrap
    rw [List.append_assoc]
    exact get_put _ (by omega) (by omega)
  go_enter Try.func7, Try.ntmps7
  go_wp2_with fail
  refine (HM.out _ HR.out).mono ?_
  rintro e w1 ⟨va, rfl, hown1, hb1⟩
  obtain ⟨aa, ac, rfl⟩ := (RowK.own encE_len hown1).shape
  have Q1 : Hid (GX (w1.alloc (.cells #[.int .i64 (N : Int), .slice aa E.length ac] 24)) w1.heap.size N (.slice aa E.length ac) ∧ EdR (w1.alloc (.cells #[.int .i64 (N : Int), .slice aa E.length ac] 24)) (.slice aa E.length ac) E ∧ Below w.heap.size w (w1.alloc (.cells #[.int .i64 (N : Int), .slice aa E.length ac] 24))) := ⟨heap_alloc_new w1 _, (RowK.own encE_len hown1).below (below_alloc _ _) (Nat.le_refl _), hb1.alloc hb1.size _⟩
  clear hown1 hb1 HM HR
  go_upto_region 2 with fail
  generalize w1.alloc (.cells #[.int .i64 (N : Int), .slice aa E.length ac] 24) = w2 at *
  generalize w1.heap.size = GB' at *
  go_wp2_with fail
  refine (HPX.out _).mono ?_
  rintro e w3 ⟨rfl, rfl⟩
  obtain ⟨c0, c1⟩ := Q1.out.1.cells
  go_wp2_with fail
  refine (CBH.out _ w3 Q1.out.2.1).mono ?_
  rintro e w4 ⟨bv, rfl, hown2, hbel2⟩
  have R2 : Hid (Reads .u8 w4 bv (wrap p)) := reads_own hown2
  have B2 : Hid (Below w.heap.size w w4) := Q1.out.2.2.trans (hbel2.mono Q1.out.2.2.size)
  have hs2 := B2.out.size
  obtain ⟨g2, c2, rfl, hg2, _, hc2, hm2, _⟩ := own_shape hown2 (by omega)
  have hgw : w.heap.size ≤ g2 := Nat.le_trans Q1.out.2.2.size hg2
  have HF : Hid (∀ j, w4.frozen? ⟨g2, j, none⟩ = false) := fun j => frozen_own hown2 j
  clear hown2 hbel2 Q1 c0 c1 CBH HPX
  unfold maxLen at hm2
  have hF8 : 8 ≤ (wrap p).length := by omega
  generalize hL : (wrap p).length = L at *
  have HLL : Hid ((wrap p).length = L) := hL
  have CG : Hid (∀ X, Reads .u8 X (.slice (some ⟨g2, 0, none⟩) L c2) (wrap p) → Calls Try.prog 23 #[.slice (some ⟨g2, 0, none⟩) L c2] X fun e w' => e = .returned (.tuple #[.int .u64 (p.length : Int), .int .i64 ((put (p.length : Int)).length : Int), .int .i64 0]) ∧ w' = X) := fun X hX => by
    have := get_any _ (wrap p) X hX XW.out
    rw [HGET.out] at this
    exact this
  clear HGET hL
  generalize hk : (put (p.length : Int)).length = k at *
  have HLN : Hid (L = k + p.length + 4) := hwl
  clear hwl hk
  have l1 : ¬ (L : Int) < 8 := by omega
  have l2 : ¬ (k : Int) < 1 := by omega
  have l3 : ¬ (L : Int) ≤ (k : Int) := by have := HLN.out; omega
  go_wp2_with fail
  refine (CG.out _ R2.out).mono ?_
  rintro e w5 ⟨rfl, rfl⟩
  clear CG
  cases t5 with
  | true =>
    have p4 := pick_in n3 (L : Int) (by omega)
    obtain ⟨c, hc⟩ : ∃ c : Nat, pickF n3 (L : Int) = (c : Int) := ⟨_, (Int.toNat_of_nonneg p4.1).symm⟩
    have hcl : c < L := by omega
    have CP : Hid (∀ X, Calls Try.prog 18 #[.int .i64 n3, .int .i64 (L : Int)] X fun e w' => e = .returned (.int .i64 (c : Int)) ∧ w' = X) := fun X => by
      have := picked_any n3 (L : Int) X hI3.1 hI3.2 (by omega) (by omega)
      rwa [hc] at this
    have RR : Hid (Reads .u8 w5 (.slice (some ⟨g2, 0, none⟩) c c2) ((wrap p).take c)) := by
      obtain ⟨b', off', cap', hv, h1, h2, _, hcell⟩ := R2.out.plain (by rw [HLL.out]; omega)
      injection hv with e1 _ e3
      injection e1 with e1
      injection e1 with e1 e2
      subst e1 e2 e3
      exact reads_upto h1 h2 (by rw [HLL.out]; omega) hcell
    have XS : Hid (∀ z ∈ (wrap p).take c, 0 ≤ z ∧ z ≤ 255) := fun z hz => XW.out z (List.mem_of_mem_take hz)
    have HO : Hid (openF ((wrap p).take c) = (noP, 4)) := HT.out c hcl
    have BB8 : Hid (Below w.heap.size w w5) := B2.out
    have HBX : ∀ {X : World}, Below w5.heap.size w5 X → Below w5.heap.size w5 X := fun h => h
    have i1 : (0 : Int) ≤ (c : Int) := by omega
    have i2 : (c : Int) ≤ (c2 : Int) := by omega
    clear p4 hc HU HT
    go_wp2_with fail
    refine (CP.out _).mono ?_
    rintro e w6 ⟨rfl, rfl⟩
    go_wp2_with fail
    refine (storeOpen_any _ ((wrap p).take c) w6 RR.out XS.out).mono ?_
    rw [HO.out]
    rintro e w9 ⟨pv, rfl, hpr, hb9⟩
    obtain ⟨vo, vi, rfl, ho9, hi9⟩ := hpr
    obtain ⟨oa, oc, rfl, _⟩ := ho9
    obtain ⟨ia, ic, rfl, _⟩ := hi9
    have B9 : Hid (Below w.heap.size w w9) := BB8.out.trans ((HBX hb9).mono BB8.out.size)
    have hs9 := B9.out.size
    clear hb9
    unfold noP
    simp only [List.length_nil]
    have B10 : Hid (Below w.heap.size w (w9.alloc (.cells #[.int .i64 0, .int .i64 0, .int .i64 0, .slice oa 0 oc, .slice ia 0 ic] 36)) ∧ PB (w9.alloc (.cells #[.int .i64 0, .int .i64 0, .int .i64 0, .slice oa 0 oc, .slice ia 0 ic] 36)) w9.heap.size (.int .i64 0) (.int .i64 0) (.int .i64 0) (.slice oa 0 oc) (.slice ia 0 ic)) := ⟨B9.out.alloc hs9 _, heap_alloc_new w9 _⟩
    go_upto_region 13 with fail
    generalize w9.alloc (.cells #[.int .i64 0, .int .i64 0, .int .i64 0, .slice oa 0 oc, .slice ia 0 ic] 36) = w10 at *
    generalize w9.heap.size = PX at *
    obtain ⟨d0, d1, d2, d3, d4⟩ := B10.out.2.cells
    go_wp2_with fail
    go_ret
    exact ⟨ret_bool (by simp), B10.out.1⟩
  | false =>
    generalize wrap p = f at *
    have p4 := pick_in n3 ((L : Int) - k) (by omega)
    obtain ⟨pk, hpk⟩ : ∃ pk : Nat, pickF n3 ((L : Int) - k) = (pk : Int) := ⟨_, (Int.toNat_of_nonneg p4.1).symm⟩
    have hpk2 : k + pk < L := by omega
    have p5 := pick_in n4 255 (by omega)
    obtain ⟨cc, hcc⟩ : ∃ cc : Nat, pickF n4 255 = (cc : Int) := ⟨_, (Int.toNat_of_nonneg p5.1).symm⟩
    have hcc2 : (cc : Int) < 255 := by omega
    have hck : w5.cell? ⟨g2, k + pk, none⟩ = some (.int .u8 (f.getD (k + pk) 0)) := by
      obtain ⟨b', off', cap', hv, _, _, _, hcell⟩ := R2.out.plain (by rw [HLL.out]; omega)
      injection hv with e1 _ _
      injection e1 with e1
      injection e1 with e1 e2
      subst e1 e2
      have := hcell (k + pk) (by rw [HLL.out]; exact hpk2)
      simpa using this
    have hfk := HF.out (k + pk)
    have hxb : 0 ≤ f.getD (k + pk) 0 ∧ f.getD (k + pk) 0 ≤ 255 := XW.out _ (by rw [List.getD_eq_getElem?_getD, List.getElem?_eq_getElem (show k + pk < f.length by rw [HLL.out]; omega)]; exact List.getElem_mem _)
    obtain ⟨x, hx⟩ : ∃ x : Nat, f.getD (k + pk) 0 = (x : Int) := ⟨_, (Int.toNat_of_nonneg hxb.1).symm⟩
    have HXE : Hid (f.getD (k + pk) 0 = (x : Int)) := hx
    rw [hx] at hck hxb
    clear hx
    have hxor : bits .xor .u8 (x : Int) (1 + (cc : Int)) = ((x ^^^ (1 + cc) : Nat) : Int) := u8_xor_nat x (1 + cc) (by omega) (by omega)
    have hyl : x ^^^ (1 + cc) < 256 := xor_lt8 (by omega) (by omega)
    have hyn : x ^^^ (1 + cc) ≠ x := fun h => by
      have h2 : x ^^^ (x ^^^ (1 + cc)) = x ^^^ x := by rw [h]
      rw [← Nat.xor_assoc, Nat.xor_self, Nat.zero_xor] at h2
      omega
    generalize x ^^^ (1 + cc) = y at *
    have HO : Hid (openF (f.set (k + pk) (y : Int)) = (noP, 5)) := HU.out (k + pk) y (by omega) (by omega) (by omega) (by rw [HXE.out]; omega)
    have XS : Hid (∀ z ∈ f.set (k + pk) (y : Int), 0 ≤ z ∧ z ≤ 255) := fun z hz => by
      rcases List.mem_or_eq_of_mem_set hz with h | h
      · exact XW.out z h
      · rw [h]; omega
    have RR : Hid (Reads .u8 (w5.setCell ⟨g2, k + pk, none⟩ (.int .u8 (y : Int))) (.slice (some ⟨g2, 0, none⟩) L c2) (f.set (k + pk) (y : Int))) := by
      have h2 := R2.out
      show Reads _ _ _ _
      rw [← HLL.out] at h2 ⊢
      exact reads_set (y := y) h2 (by rw [HLL.out]; omega)
    have BB8 : Hid (Below w.heap.size w (w5.setCell ⟨g2, k + pk, none⟩ (.int .u8 (y : Int)))) := B2.out.setCell (by show w.heap.size ≤ g2; exact hgw) _
    clear HU HT hyn p4 p5 R2 HF
    generalize p.length = n at *
    have i0 : (0 : Int) ≤ (k : Int) + (pk : Int) := by omega
    have i1 : (k : Int) + (pk : Int) < (L : Int) := by omega
    have i2 : ((k : Int) + (pk : Int)).toNat = k + pk := by omega
    have b1 := hI3.1
    have b2 := hI3.2
    have b3 := hI4.1
    have b4 := hI4.2
    have q0 : IntKind.i64.wrap ((L : Int) - (k : Int)) = (L : Int) - (k : Int) := wrap_id64 (by omega) (by omega)
    have q2 : IntKind.i64.wrap ((k : Int) + (pk : Int)) = (k : Int) + (pk : Int) := wrap_id64 (by omega) (by omega)
    have q3 : IntKind.i64.wrap (1 + (cc : Int)) = 1 + (cc : Int) := wrap_id64 (by omega) (by omega)
    have q5 : IntKind.u8.wrap (1 + (cc : Int)) = 1 + (cc : Int) := by rw [IntKind.wrap_u8']; omega
    go_wp2_with fail
    go_region_with (first
      | (go_at_call 18; refine (picked_any _ _ _ ?_ ?_ ?_ ?_).mono ?_; omega; omega; omega; omega; rintro e w6 ⟨rfl, rfl⟩))
    all_goals
      have HBX : ∀ {X : World}, Below (w5.setCell ⟨g2, k + pk, none⟩ (.int .u8 (y : Int))).drew.heap.size (w5.setCell ⟨g2, k + pk, none⟩ (.int .u8 (y : Int))).drew X → Below (w5.setCell ⟨g2, k + pk, none⟩ (.int .u8 (y : Int))).heap.size (w5.setCell ⟨g2, k + pk, none⟩ (.int .u8 (y : Int))) X := fun h => below_undrew h
      go_wp2_with fail
      refine (storeOpen_any _ (f.set (k + pk) (y : Int)) _ (RR.out.below (Below.refl _ _).drew (Nat.le_refl _)) XS.out).mono ?_
      rw [HO.out]
      rintro e w9 ⟨pv, rfl, hpr, hb9⟩
      obtain ⟨vo, vi, rfl, ho9, hi9⟩ := hpr
      obtain ⟨oa, oc, rfl, _⟩ := ho9
      obtain ⟨ia, ic, rfl, _⟩ := hi9
      have B9 : Hid (Below w.heap.size w w9) := BB8.out.trans ((HBX hb9).mono BB8.out.size)
      have hs9 := B9.out.size
      clear hb9
      unfold noP
      simp only [List.length_nil]
      have B10 : Hid (Below w.heap.size w (w9.alloc (.cells #[.int .i64 0, .int .i64 0, .int .i64 0, .slice oa 0 oc, .slice ia 0 ic] 36)) ∧ PB (w9.alloc (.cells #[.int .i64 0, .int .i64 0, .int .i64 0, .slice oa 0 oc, .slice ia 0 ic] 36)) w9.heap.size (.int .i64 0) (.int .i64 0) (.int .i64 0) (.slice oa 0 oc) (.slice ia 0 ic)) := ⟨B9.out.alloc hs9 _, heap_alloc_new w9 _⟩
      go_upto_region 13 with fail
      generalize w9.alloc (.cells #[.int .i64 0, .int .i64 0, .int .i64 0, .slice oa 0 oc, .slice ia 0 ic] 36) = w10 at *
      generalize w9.heap.size = PX at *
      obtain ⟨d0, d1, d2, d3, d4⟩ := B10.out.2.cells
      go_wp2_with fail
      go_ret
      exact ⟨ret_bool (by simp), B10.out.1⟩

set_option maxHeartbeats 400000 in
set_option maxRecDepth 100000 in
theorem lifted (os : Os) (started : os.Started) (H : Type) (enc : TypeId × Value → H) :
    ReturnsInHanded {} Try.checked os 7 .any (Rows.storeOneSpec.pre6 enc Try.prog Try.f7 Rows.storeOneRow.domain false) (Rows.storeOneSpec.post enc Try.prog Try.f7 false true false false) := by
  refine returnsInHanded_of_change_sized (C := Try.checked) own started (by kernel_rfl) Try.func7
    (ChangeSpec.witness6 (enc := enc) (C := Try.checked) false ⟨#[], #[.int .i64 0, .slice none 0 0, .int .i64 0, .int .i64 0, .int .i64 0, .bool false], []⟩ 8 (by kernel_rfl) (by kernel_rfl) (by kernel_rfl) (by kernel_rfl)) ?_
  intro W base args ds gs before hval0 hW _ hsz0 _
  have hval : ∀ (j : Nat) t v, Try.f7.params[j]? = some t → args[j]? = some v → Value.okWide Try.prog W .any base t v := hval0
  have hW' := hW
  obtain ⟨p, q, hA0, hV, rfl, hfz, hnd⟩ := hW
  have hA : DataW.TrodAll enc Try.prog W 0 (fun _ => true) true Try.f7.params.toList args.toList ds p := hA0
  have hsz : (DataW.weightsEach Try.prog (Try.f7.params.toList ++ Rows.storeOneSpec.plain.varTypes Try.prog) (ds ++ gs)).all (fun x => decide (x ≤ reachBytes)) = true := hsz0
  rw [Try.params7] at hA hval hsz
  obtain ⟨v0, vs0, d0, ds0, p0, q0, hargs, rfl, rfl, h0, r0⟩ := trodAll_cons hA
  obtain ⟨v1, vs1, d1, ds1, p1, q1, rfl, rfl, rfl, h1, r1⟩ := trodAll_cons r0
  obtain ⟨v2, vs2, d2, ds2, p2, q2, rfl, rfl, rfl, h2, r2⟩ := trodAll_cons r1
  obtain ⟨v3, vs3, d3, ds3, p3, q3, rfl, rfl, rfl, h3, r3⟩ := trodAll_cons r2
  obtain ⟨v4, vs4, d4, ds4, p4, q4, rfl, rfl, rfl, h4, r4⟩ := trodAll_cons r3
  obtain ⟨v5, vs5, d5, ds5, p5, q5, rfl, rfl, rfl, h5, r5⟩ := trodAll_cons r4
  obtain ⟨rfl, rfl, rfl⟩ := trodAll_nil r5
  obtain rfl : args = #[v0, v1, v2, v3, v4, v5] := by cases args; simp_all
  obtain ⟨rfl, rfl⟩ := trodVars_none hV
  have k0 := h0
  have lt0 : ∀ x ∈ p0, x.block < W.heap.size := by obtain ⟨m, hm⟩ := k0; exact DataW.trod_lt m _ _ _ hm
  have k1 := h1
  have lt1 : ∀ x ∈ p1, x.block < W.heap.size := by obtain ⟨m, hm⟩ := k1; exact DataW.trod_lt m _ _ _ hm
  have hw1 : ∀ m ∈ d1.weights Try.prog 41, m ≤ reachBytes := fun m hm => by simpa using List.all_eq_true.1 hsz _ (DataW.weights_mem_each (j := 1) (t := 41) rfl rfl m hm)
  have k2 := h2
  have lt2 : ∀ x ∈ p2, x.block < W.heap.size := by obtain ⟨m, hm⟩ := k2; exact DataW.trod_lt m _ _ _ hm
  have k3 := h3
  have lt3 : ∀ x ∈ p3, x.block < W.heap.size := by obtain ⟨m, hm⟩ := k3; exact DataW.trod_lt m _ _ _ hm
  have k4 := h4
  have lt4 : ∀ x ∈ p4, x.block < W.heap.size := by obtain ⟨m, hm⟩ := k4; exact DataW.trod_lt m _ _ _ hm
  have k5 := h5
  have lt5 : ∀ x ∈ p5, x.block < W.heap.size := by obtain ⟨m, hm⟩ := k5; exact DataW.trod_lt m _ _ _ hm
  obtain ⟨n0, rfl, _, _, wf0⟩ := open_int Try.underlying3 (hval 0 3 v0 rfl rfl) h0
  have hI0 := bounds_i64 wf0
  obtain ⟨es1, hR1, hB1, hL1⟩ := open_ways (okWide_slice Try.underlying41 (hval 1 41 v1 rfl rfl)) h1 hw1
  obtain ⟨n2, rfl, _, _, wf2⟩ := open_int Try.underlying3 (hval 2 3 v2 rfl rfl) h2
  have hI2 := bounds_i64 wf2
  obtain ⟨n3, rfl, _, _, wf3⟩ := open_int Try.underlying3 (hval 3 3 v3 rfl rfl) h3
  have hI3 := bounds_i64 wf3
  obtain ⟨n4, rfl, _, _, wf4⟩ := open_int Try.underlying3 (hval 4 3 v4 rfl rfl) h4
  have hI4 := bounds_i64 wf4
  obtain ⟨t5, rfl⟩ := okWide_bool Try.underlying4 (hval 5 4 v5 rfl rfl)
  clear hA0 hval0
  refine (walk n0 v1 es1 n2 n3 n4 t5 W hI0 hR1 hB1 hL1 hI2 hI3 hI4).mono fun e W' ⟨he, bel⟩ => ?_
  subst he
  exact ⟨_, rfl, _, _, _, [], _, [], hW', trodAll_mk1 (shut_bool Try.underlying4 _), (trodAll_cons_mk (Below.trod laidOut (by kernel_rfl) (of_decide_eq_true (by kernel_rfl)) k0 bel lt0) (trodAll_cons_mk (Below.trod laidOut (by kernel_rfl) (of_decide_eq_true (by kernel_rfl)) k1 bel lt1) (trodAll_cons_mk (Below.trod laidOut (by kernel_rfl) (of_decide_eq_true (by kernel_rfl)) k2 bel lt2) (trodAll_cons_mk (Below.trod laidOut (by kernel_rfl) (of_decide_eq_true (by kernel_rfl)) k3 bel lt3) (trodAll_cons_mk (Below.trod laidOut (by kernel_rfl) (of_decide_eq_true (by kernel_rfl)) k4 bel lt4) (trodAll_cons_mk (Below.trod laidOut (by kernel_rfl) (of_decide_eq_true (by kernel_rfl)) k5 bel lt5) trodAll_mk0)))))), rfl, bel.frame _, fun h => by cases h⟩

theorem over : Rows.storeOneRow.holds Try.pinned (OpenSpec.ofChange Rows.storeOneSpec) :=
  OpenClaim.holds_of_wide 7 Try.f7 rfl rfl rfl rfl rfl rfl rfl ⟨rfl, rfl, rfl, rfl, rfl⟩ rfl rfl rfl rfl rfl (by kernel_rfl) Try.func7 (by kernel_rfl)
    (of_decide_eq_true (by kernel_rfl)) (by unfold Func.isWrapper; first | (rw [if_pos (by decide +kernel)]; kernel_rfl) | (rw [if_neg (by decide +kernel)]; exact ⟨rfl, rfl⟩))
    (fun os started H enc _ => lifted os started H enc)

/-- The statement. -/
theorem proved : Rows.StoreOneSaid := over
#print axioms proved
end Go.Proofs.Ytacpicnihgggaaa.storeOne
