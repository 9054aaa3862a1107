/-
  Contract of paths.Strong.
-/
import Derived.Test.YtankibadiomkkabPathBoth
import Derived.Test.YtankibadiomkkabPathHops
import Derived.Test.YtankibadiomkkabPathErr
import Derived.Test.YtankibadiomkkabTurnWalk
import Derived.Test.YtankibadiomkkabRegionCall
namespace Go.Proofs.Ytankibadiomkkab
set_option maxRecDepth 100000
open Go.ChangeShapes Go.WideShapes Go.ChangeAt Go.RowKit

theorem turn_in {n : Int} {es : List Ed} (hg : InG n es) : InG n (sortE (es.map turnE)) := fun e he => by
  obtain ⟨d, hd, rfl⟩ := List.mem_map.1 ((sortE_perm _).mem_iff.1 he)
  obtain ⟨f0, f1, t0, t1, w0⟩ := hg d hd
  exact ⟨t0, t1, f0, f1, w0⟩
theorem turn_len (es : List Ed) : (sortE (es.map turnE)).length = es.length := by rw [sortE_len, List.length_map]
theorem turn_rch {es : List Ed} (u v : Int) : Rch (sortE (es.map turnE)) u v ↔ Rch es v u := by
  constructor
  · exact rch_turn fun e he => by
      obtain ⟨d, hd, rfl⟩ := List.mem_map.1 ((sortE_perm _).mem_iff.1 he)
      exact ⟨d.2.2, hd⟩
  · exact rch_turn fun e he => ⟨e.2.2, (sortE_perm _).mem_iff.2 (List.mem_map.2 ⟨e, he, rfl⟩)⟩

set_option maxHeartbeats 2000000 in
set_option maxRecDepth 100000 in
theorem pStrong_any (v : Value) (es : List Ed) (n : Int) (w : World) (h : EdR w v es) :
    Calls Try.prog 6 #[.agg #[.int .i64 n, v]] w (NumP w (faultE n es) (strongF n.toNat es)) := by
  have HR : Hid (EdR w v es) := h
  obtain ⟨a, cap, rfl, hca, hma, _, _⟩ := h
  unfold maxLen at hma
  have HCK : Hid (∀ X, EdR X (.slice a es.length cap) es → Calls Try.prog 9 #[.agg #[.int .i64 n, .slice a es.length cap]] X fun e w' => ∃ v', e = .returned (.tuple #[.agg #[.int .i64 (okN (faultE n es) n), v'], .int .i64 (faultE n es)]) ∧
      w'.ownsRow X.heap.size 37 3 v' (okL (faultE n es) (sortE (es.map turnE))).length ((okL (faultE n es) (sortE (es.map turnE))).flatMap encE) ∧ Below X.heap.size X w') := fun X hX => reverse_any _ es n X hX
  obtain ⟨W0, hW0⟩ : ∃ W0, W0 = w.alloc (.cells #[.int .i64 n, .slice a es.length cap] 25) := ⟨_, rfl⟩
  have Q0 : BX 25 W0 w.heap.size #[.int .i64 n, .slice a es.length cap] := by rw [hW0]; exact BX.new _ _ _
  have BH : Hid (Below w.heap.size w W0) := by show Below _ _ _; rw [hW0]; exact below_alloc _ _
  have s1 : w.heap.size + 1 ≤ W0.heap.size := by rw [hW0]; simp
  have HK : Hid (∀ X, Below W0.heap.size W0 X → BX 25 X w.heap.size #[.int .i64 n, .slice a es.length cap] ∧ Below w.heap.size w X ∧ EdR X (.slice a es.length cap) es) := fun X hX => ⟨Q0.below hX (by omega), BH.out.trans (hX.mono (by omega)), HR.out.below (BH.out.trans (hX.mono (by omega))) (Nat.le_refl _)⟩
  have R0 : Hid (EdR W0 (.slice a es.length cap) es) := HR.out.below BH.out (Nat.le_refl _)
  obtain ⟨q0, q1, _⟩ := Q0.all2
  clear Q0
  by_cases hf : faultE n es = 0
  · obtain ⟨hn0, hn1, hle, hgd⟩ := fault_ok hf
    rw [hf, okN_yes, okL_yes] at HCK
    rw [hf]
    obtain ⟨m, rfl⟩ : ∃ m : Nat, n = m := ⟨n.toNat, by omega⟩
    rw [Int.toNat_natCast]
    have HG : Hid (InG m es) := in_fault hf
    have HD : Hid (InG m (sortE (es.map turnE))) := turn_in HG.out
    have hdl : (sortE (es.map turnE)).length ≤ 600 := by rw [turn_len]; omega
    have HT : Hid (∀ u v, Rch (sortE (es.map turnE)) u v ↔ Rch es v u) := fun u v => turn_rch u v
    have HP : Hid (∀ v (w' : World), w'.ownsRow w.heap.size 3 1 v m ((strongF m es).flatMap encI) → Below w.heap.size w w' → NumP w 0 (strongF m es) (.returned (.tuple #[v, .int .i64 0])) w') := fun v w' h1 h2 => NumP.yes (by rw [strongF_len]; exact h1) h2
    generalize NumP w 0 (strongF m es) = P at *
    generalize sortE (es.map turnE) = ds at *
    clear hf hgd
    go_enter Try.func6, Try.ntmps6
    go_upto_region 1 with fail
    rw [← hW0]
    clear hW0
    go_wp2_with fail
    refine (HCK.out _ R0.out).mono ?_
    rintro e w1 ⟨v', rfl, ho1, hb1⟩
    have A1 : Hid (Below W0.heap.size W0 w1) := hb1
    have D1 : Hid (EdR w1 v' ds) := RowK.own encE_len ho1
    obtain ⟨da, dc, rfl⟩ := D1.out.shape
    clear ho1 hb1 q0 q1 HCK
    go_upto_region 2 with fail
    have W2 : Hid (Below W0.heap.size W0 (w1.alloc (.cells #[.int .i64 (m : Int), .slice da ds.length dc] 25)) ∧ EdR (w1.alloc (.cells #[.int .i64 (m : Int), .slice da ds.length dc] 25)) (.slice da ds.length dc) ds ∧ BX 25 (w1.alloc (.cells #[.int .i64 (m : Int), .slice da ds.length dc] 25)) w1.heap.size #[.int .i64 (m : Int), .slice da ds.length dc]) :=
      ⟨A1.out.alloc A1.out.size _, D1.out.below (below_alloc _ _) (Nat.le_refl _), BX.new _ _ _⟩
    generalize w1.alloc (.cells #[.int .i64 (m : Int), .slice da ds.length dc] 25) = w2 at *
    generalize w1.heap.size = b4 at *
    obtain ⟨a2, d2, bx2⟩ := W2.out
    have A2 : Hid (Below W0.heap.size W0 w2) := a2
    have D2 : Hid (EdR w2 (.slice da ds.length dc) ds) := d2
    have HS : Hid (∀ V, Below w2.heap.size w2 V → V.cell? ⟨w.heap.size, 0, none⟩ = some (.int .i64 (m : Int)) ∧ V.cell? ⟨w.heap.size, 1, none⟩ = some (.slice a es.length cap) ∧ V.cell? ⟨b4, 0, none⟩ = some (.int .i64 (m : Int)) ∧ V.cell? ⟨b4, 1, none⟩ = some (.slice da ds.length dc)) := fun V hV => by
      obtain ⟨x1, x2, _⟩ := ((HK.out _ a2).1.below hV (by have := a2.size; omega)).all2
      obtain ⟨x3, x4, _⟩ := (bx2.below hV bx2.lt).all2
      exact ⟨x1, x2, x3, x4⟩
    have E2 : Hid (EdR w2 (.slice a es.length cap) es) := (HK.out _ a2).2.2
    have BW2 : Hid (Below w.heap.size w w2) := (HK.out _ a2).2.1
    have hsw := BW2.out.size
    have HH1 : Hid (∀ X, Below w2.heap.size w2 X → Calls Try.prog 11 #[.agg #[.int .i64 (m : Int), .slice a es.length cap]] X fun e w' => ∃ v', e = .returned v' ∧ (LsR w' v' (tblF m es) ∧ Below X.heap.size X w')) := fun X hX => (hopsOf_any _ es m X (E2.out.below hX (Nat.le_refl _)) (by omega) (by omega) (fun e he => ⟨(HG.out e he).1, (HG.out e he).2.1⟩)).mono (by
      rintro e w' ⟨v', he, h1, h2⟩
      exact ⟨v', he, h1.reads, h2⟩)
    have HH2 : Hid (∀ X, Below w2.heap.size w2 X → Calls Try.prog 11 #[.agg #[.int .i64 (m : Int), .slice da ds.length dc]] X fun e w' => ∃ v', e = .returned v' ∧ (LsR w' v' (tblF m ds) ∧ Below X.heap.size X w')) := fun X hX => (hopsOf_any _ ds m X (D2.out.below hX (Nat.le_refl _)) (by omega) (by omega) (fun e he => ⟨(HD.out e he).1, (HD.out e he).2.1⟩)).mono (by
      rintro e w' ⟨v', he, h1, h2⟩
      exact ⟨v', he, h1.reads, h2⟩)
    have HH3 : Hid (∀ vo vi X, LsR X vo (tblF m es) → LsR X vi (tblF m ds) → Calls Try.prog 10 #[vo, vi] X (BthP m es X)) := fun vo vi X h1 h2 => bothWays_any vo vi es ds m X h1 h2 HG.out HD.out HT.out (by omega) (by omega) (by omega)
    clear a2 d2 bx2 W2 A1 D1
    go_upto_region 4 with fail
    have eho : ∀ args w, (callFunc 11 args).run Try.prog w = .ok (.enter 11 args) w := enters_of Try.func11 (by kernel_rfl) rfl
    have ebo : ∀ args w, (callFunc 10 args).run Try.prog w = .ok (.enter 10 args) w := enters_of Try.func10 (by kernel_rfl) rfl
    have B0' : Hid (Below w2.heap.size w2 w2.drew) := (Below.refl _ _).drew
    refine wp_region_held (S := fun V => V.cell? ⟨w.heap.size, 0, none⟩ = some (.int .i64 (m : Int)) ∧ V.cell? ⟨w.heap.size, 1, none⟩ = some (.slice a es.length cap) ∧ V.cell? ⟨b4, 0, none⟩ = some (.int .i64 (m : Int)) ∧ V.cell? ⟨b4, 1, none⟩ = some (.slice da ds.length dc)) (by kernel_rfl) ?_
    simp only [List.size_toArray, List.length_cons, List.length_nil, Nat.reduceAdd]
    refine takeH (i := 0) (v := .agg #[.int .i64 (m : Int), .slice a es.length cap]) (d := 14) rfl rfl (by kernel_rfl) (by kernel_rfl) (by kernel_rfl) (fun _ _ _ h => h) (by rfl) (fun V hV => by obtain ⟨v1, v2, v3, v4⟩ := hV; go_simp) (HS.out _ B0'.out) ?_
    simp only [Act.put, List.setIfInBounds_toArray, List.set_cons_zero, List.set_cons_succ]
    refine takeH (i := 2) (v := .agg #[.int .i64 (m : Int), .slice da ds.length dc]) (d := 16) rfl rfl (by kernel_rfl) (by kernel_rfl) (by kernel_rfl) (fun _ _ _ h => h) (by rfl) (fun V hV => by obtain ⟨v1, v2, v3, v4⟩ := hV; go_simp) (HS.out _ B0'.out) ?_
    simp only [Act.put, List.setIfInBounds_toArray, List.set_cons_zero, List.set_cons_succ]
    refine oneH (i := 1) rfl (by kernel_rfl) rfl (call_gets (d := 15) (f := 11) (xs := #[.tmp 14]) (ats := #[25]) rfl rfl eho (vs := #[.agg #[.int .i64 (m : Int), .slice a es.length cap]]) (by simp [Act.eval]) (HH1.out _ B0'.out) ?_)
    rintro vo w3 ⟨hl3, hb3⟩
    have B3 : Hid (Below w2.heap.size w2 w3) := below_undrew hb3
    have L3 : Hid (LsR w3 vo (tblF m es)) := hl3
    refine ⟨HS.out _ B3.out, ?_⟩
    clear hl3 hb3
    simp only [Act.put, List.setIfInBounds_toArray, List.set_cons_zero, List.set_cons_succ]
    refine oneH (i := 3) rfl (by kernel_rfl) rfl (call_gets (d := 17) (f := 11) (xs := #[.tmp 16]) (ats := #[25]) rfl rfl eho (vs := #[.agg #[.int .i64 (m : Int), .slice da ds.length dc]]) (by simp [Act.eval]) (HH2.out _ B3.out) ?_)
    rintro vi w4 ⟨hl4, hb4⟩
    have B4 : Hid (Below w2.heap.size w2 w4) := B3.out.trans (hb4.mono B3.out.size)
    have L4 : Hid (LsR w4 vi (tblF m ds)) := hl4
    have L4' : Hid (LsR w4 vo (tblF m es)) := L3.out.below hb4 (Nat.le_refl _)
    refine ⟨HS.out _ B4.out, ?_⟩
    clear hl4 hb4
    simp only [Act.put, List.setIfInBounds_toArray, List.set_cons_zero, List.set_cons_succ]
    refine oneH (i := 4) rfl (by kernel_rfl) rfl (call_gets (d := 18) (f := 10) (xs := #[.tmp 15, .tmp 17]) (ats := #[43, 43]) rfl rfl ebo (vs := #[vo, vi]) (by simp [Act.eval]) (HH3.out _ _ _ L4'.out L4.out) ?_)
    rintro vr w5 ⟨ho5, hb5⟩
    have B5 : Hid (Below w2.heap.size w2 w5) := B4.out.trans (hb5.mono B4.out.size)
    have O5 : Hid (w5.ownsRow w.heap.size 3 1 vr m ((strongF m es).flatMap encI)) := own_lower ho5 (by have := B4.out.size; omega)
    have BE : Hid (Below w.heap.size w w5) := BW2.out.trans (B5.out.mono hsw)
    refine ⟨HS.out _ B5.out, ?_⟩
    obtain ⟨va, vn, vc, rfl⟩ : ∃ a n c, vr = .slice a n c := by
      rcases own_shapeK ho5 with ⟨e, _⟩ | ⟨g', c', e, _⟩
      · exact ⟨_, _, _, e⟩
      · exact ⟨_, _, _, e⟩
    clear ho5 hb5
    simp only [Act.put, List.setIfInBounds_toArray, List.set_cons_zero, List.set_cons_succ]
    refine takeH (i := 5) (v := .slice va vn vc) (d := 2) rfl rfl (by kernel_rfl) (by kernel_rfl) (by kernel_rfl) (fun _ _ _ h => h) (by rfl) (fun V hV => by obtain ⟨v1, v2, v3, v4⟩ := hV; go_simp) (HS.out _ B5.out) ?_
    simp only [Act.put, List.setIfInBounds_toArray, List.set_cons_zero, List.set_cons_succ]
    refine takeH (i := 6) (v := .int .i64 0) (d := 3) rfl rfl (by kernel_rfl) (by kernel_rfl) (by kernel_rfl) (fun _ _ _ h => h) (by rfl) (fun V hV => by obtain ⟨v1, v2, v3, v4⟩ := hV; go_simp) (HS.out _ B5.out) ?_
    simp only [Act.put, List.setIfInBounds_toArray, List.set_cons_zero, List.set_cons_succ]
    refine wpAnyH_done (by kernel_rfl) ?_ _
    go_wp2_with fail
    exact HP.out _ _ O5.out BE.out
  · have HP : Hid (∀ (w' : World), Below w.heap.size w w' → NumP w (faultE n es) (strongF n.toNat es) (.returned (.tuple #[.slice none 0 0, .int .i64 (faultE n es)])) w') := fun w' h => NumP.no hf h
    generalize NumP w (faultE n es) (strongF n.toNat es) = P at *
    generalize okL (faultE n es) (sortE (es.map turnE)) = ds at *
    generalize okN (faultE n es) n = n2 at *
    generalize faultE n es = fe at *
    have t0 : (fe != 0) = true := by simpa using hf
    clear hf
    go_enter Try.func6, Try.ntmps6
    go_upto_region 1 with fail
    rw [← hW0]
    clear hW0
    go_wp2_with fail
    refine (HCK.out _ R0.out).mono ?_
    rintro e w1 ⟨v', rfl, ho1, hb1⟩
    have A1 : Hid (Below W0.heap.size W0 w1) := hb1
    obtain ⟨da, dc, rfl⟩ := (RowK.own encE_len ho1).shape
    clear ho1 hb1 q0 q1 HCK
    go_upto_region 2 with fail
    have W2 : Hid (Below w.heap.size w (w1.alloc (.cells #[.int .i64 n2, .slice da ds.length dc] 25))) := (HK.out _ (A1.out.alloc A1.out.size _)).2.1
    generalize w1.alloc (.cells #[.int .i64 n2, .slice da ds.length dc] 25) = w2 at *
    go_wp2_with fail
    exact HP.out _ W2.out
end Go.Proofs.Ytankibadiomkkab
