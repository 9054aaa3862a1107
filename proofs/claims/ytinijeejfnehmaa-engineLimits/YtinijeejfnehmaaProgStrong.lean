/-
  Contracts of begin and hear of Strong.
-/
import Derived.Test.YtinijeejfnehmaaProgLower
import Derived.Test.YtinijeejfnehmaaRegionCall
import Derived.Shelf.Abstract
namespace Go.Proofs.Ytinijeejfnehmaa
set_option maxRecDepth 100000
open Go.ChangeShapes Go.WideShapes Go.ChangeAt Go.RowKit

set_option maxRecDepth 100000 in
/-- A field without cells at the head of a box. -/
theorem part_zero {w : World} {q : Nat} {b : Value} (h : BX 87 w q #[b]) : (partAt ⟨q, 0, none⟩ 0 0).run Try.prog w = .ok ⟨q, 0, none⟩ w := by
  have hc : Try.prog.cellsOf 87 = 1 := by kernel_rfl
  have hb : byteOfCell Try.prog Try.prog.depth 87 0 = some 0 := by kernel_rfl
  have hs : w.shape? q = some (87, 1) := by unfold BX at h; simp [World.shape?, h]
  simp [partAt, byteOf, noView, viewAt, go_sem, hs, hc, hb]

set_option maxHeartbeats 2000000 in
set_option maxRecDepth 100000 in
theorem sBegin_any (b : Bool) (v s : Int) (x : Ml) (w : World) :
    Calls Try.prog 109 #[.agg #[.bool b], .int .i64 v, .int .i64 s, .agg #[.int .i64 x.1, .int .i64 x.2]] w (ValP w (beginF (true, b) v s x)) := by
  obtain ⟨W0, hW0⟩ : ∃ W0, W0 = ((w.alloc (.cells #[.bool b] 87)).alloc (.cells #[.int .i64 x.1, .int .i64 x.2] 53)).alloc (.cells #[.int .i64 0, .int .i64 0] 53) := ⟨_, rfl⟩
  obtain ⟨S0, Q0, T0, B0, s1, s2⟩ := boxes3 w #[.bool b] #[.int .i64 x.1, .int .i64 x.2] #[.int .i64 0, .int .i64 0] 87 53 53 W0 hW0
  have T1 : Hid (BX 53 W0 (w.heap.size + 2) #[.int .i64 0, .int .i64 0]) := T0
  have BH : Hid (Below w.heap.size w W0) := B0
  have z0 : W0.cell? ⟨w.heap.size, 0, none⟩ = some (.bool b) := S0.cell 0
  have pz := part_zero S0
  obtain ⟨q0, q1, _⟩ := Q0.all2
  clear S0 Q0 T0 B0
  by_cases hL : x.2 = -1
  · have d1 : (x.2 != -1) = false := by simpa using hL
    cases b
    · have HP : beginF (true, false) v s x = ((v, -1), true) := by unfold beginF; simp only; rw [if_pos hL]
      rw [HP]
      have HC : Hid (∀ X, Calls Try.prog 104 #[.agg #[], .int .i64 v, .int .i64 s, .agg #[.int .i64 x.1, .int .i64 x.2]] X (ValP X ((v, -1), true))) := fun X => wBegin_any v s x X
      unfold ValP at *
      clear hL HP
      go_enter Try.func109, Try.ntmps109
      go_upto_region 1 with fail
      rw [← hW0]
      clear hW0
      go_wp2_with fail
      refine (HC.out _).mono ?_
      rintro e w1 ⟨rfl, hb1⟩
      have B1 : Hid (Below w.heap.size w w1) := BH.out.trans (hb1.mono (by omega))
      have T2 : Hid (BX 53 w1 (w.heap.size + 2) #[.int .i64 0, .int .i64 0]) := T1.out.below hb1 (by omega)
      clear hb1 q0 q1 z0 pz
      obtain ⟨t0, t1, t2, t3⟩ := T2.out.all2
      have RX : Hid (BX 53 (put2 w1 (w.heap.size + 2) (.int .i64 v) (.int .i64 (-1))) (w.heap.size + 2) #[.int .i64 v, .int .i64 (-1)]) := T2.out.put2 _ _
      have HX : Hid (Below w.heap.size w (put2 w1 (w.heap.size + 2) (.int .i64 v) (.int .i64 (-1)))) := below_put2 B1.out (by omega) _ _
      go_wp2_with fail
      obtain ⟨r0, r1, _⟩ := RX.out.all2
      unfold put2 at r0 r1
      exact bodyPost_ret (v := .tuple #[.agg #[.int .i64 v, .int .i64 (-1)], .bool true]) (by simp [results, Try.results109, go_sem, r0, r1]) rfl ⟨rfl, HX.out⟩
    · have HP : beginF (true, true) v s x = labF x (x.1 == v) := by unfold beginF; simp only; rw [if_pos hL]
      rw [HP]
      have HC : Hid (∀ X, Calls Try.prog 112 #[.agg #[.int .i64 x.1, .int .i64 x.2], .bool (x.1 == v)] X (ValP X (labF x (x.1 == v)))) := fun X => labelled_any x _ X
      unfold ValP at *
      obtain ⟨t, ht⟩ : ∃ t, (x.1 == v) = t := ⟨_, rfl⟩
      rw [ht] at HC ⊢
      generalize labF x t = r at *
      clear hL HP
      go_enter Try.func109, Try.ntmps109
      go_upto_region 1 with fail
      rw [← hW0]
      clear hW0
      go_wp2_with fail
      refine (HC.out _).mono ?_
      rintro e w1 ⟨rfl, hb1⟩
      have B1 : Hid (Below w.heap.size w w1) := BH.out.trans (hb1.mono (by omega))
      have T2 : Hid (BX 53 w1 (w.heap.size + 2) #[.int .i64 0, .int .i64 0]) := T1.out.below hb1 (by omega)
      clear hb1 q0 q1 z0 pz
      obtain ⟨t0, t1, t2, t3⟩ := T2.out.all2
      have RX : Hid (BX 53 (put2 w1 (w.heap.size + 2) (.int .i64 r.1.1) (.int .i64 r.1.2)) (w.heap.size + 2) #[.int .i64 r.1.1, .int .i64 r.1.2]) := T2.out.put2 _ _
      have HX : Hid (Below w.heap.size w (put2 w1 (w.heap.size + 2) (.int .i64 r.1.1) (.int .i64 r.1.2))) := below_put2 B1.out (by omega) _ _
      go_wp2_with fail
      obtain ⟨r0, r1, _⟩ := RX.out.all2
      unfold put2 at r0 r1
      exact bodyPost_ret (v := .tuple #[.agg #[.int .i64 r.1.1, .int .i64 r.1.2], .bool r.2]) (by simp [results, Try.results109, go_sem, r0, r1]) rfl ⟨rfl, HX.out⟩
  · have d1 : (x.2 != -1) = true := by simpa using hL
    have HP : beginF (true, b) v s x = (x, false) := by unfold beginF; cases b <;> (simp only; rw [if_neg hL])
    rw [HP]
    unfold ValP
    clear hL HP
    have RX : Hid (BX 53 (put2 W0 (w.heap.size + 2) (.int .i64 x.1) (.int .i64 x.2)) (w.heap.size + 2) #[.int .i64 x.1, .int .i64 x.2]) := T1.out.put2 _ _
    have HX : Hid (Below w.heap.size w (put2 W0 (w.heap.size + 2) (.int .i64 x.1) (.int .i64 x.2))) := below_put2 BH.out (by omega) _ _
    obtain ⟨t0, t1, t2, t3⟩ := T1.out.all2
    go_enter Try.func109, Try.ntmps109
    go_upto_region 1 with fail
    rw [← hW0]
    clear hW0
    go_wp2_with fail
    obtain ⟨r0, r1, _⟩ := RX.out.all2
    unfold put2 at r0 r1
    exact bodyPost_ret (v := .tuple #[.agg #[.int .i64 x.1, .int .i64 x.2], .bool false]) (by simp [results, Try.results109, go_sem, r0, r1]) rfl ⟨rfl, HX.out⟩
theorem put2_cell {w : World} {q b j : Nat} {x y : Value} (hne : b ≠ q) : (put2 w q x y).cell? ⟨b, j, none⟩ = w.cell? ⟨b, j, none⟩ := by
  unfold put2
  rw [World.cell?_setCell_other _ _ _ _ (fun h => hne (by injection h with h; exact h.symm)), World.cell?_setCell_other _ _ _ _ (fun h => hne (by injection h with h; exact h.symm))]

set_option maxHeartbeats 2000000 in
set_option maxRecDepth 100000 in
theorem sHear_any (b : Bool) (x : Ml) (v : Value) (m : List Int) (w : World) (h : InR w v m) :
    Calls Try.prog 110 #[.agg #[.bool b], .agg #[.int .i64 x.1, .int .i64 x.2], v] w (ValP w (hearF (true, b) x m)) := by
  have HR : Hid (InR w v m) := h
  obtain ⟨a, cap, rfl⟩ := h.shape
  clear h
  obtain ⟨W0, hW0⟩ : ∃ W0, W0 = ((w.alloc (.cells #[.bool b] 87)).alloc (.cells #[.int .i64 x.1, .int .i64 x.2] 53)).alloc (.cells #[.int .i64 0, .int .i64 0] 53) := ⟨_, rfl⟩
  obtain ⟨S0, Q0, T0, B0, s1, s2⟩ := boxes3 w #[.bool b] #[.int .i64 x.1, .int .i64 x.2] #[.int .i64 0, .int .i64 0] 87 53 53 W0 hW0
  have T1 : Hid (BX 53 W0 (w.heap.size + 2) #[.int .i64 0, .int .i64 0]) := T0
  have BH : Hid (Below w.heap.size w W0) := B0
  have z0 : W0.cell? ⟨w.heap.size, 0, none⟩ = some (.bool b) := S0.cell 0
  have pz := part_zero S0
  have R0 : Hid (InR W0 (.slice a m.length cap) m) := HR.out.below B0 (Nat.le_refl _)
  obtain ⟨q0, q1, _⟩ := Q0.all2
  clear S0 Q0 T0 B0
  by_cases hL : x.2 = -1
  · have d1 : (x.2 != -1) = false := by simpa using hL
    cases b
    · have HP : hearF (true, false) x m = lowV x m := by unfold hearF; simp only; rw [if_pos hL]
      rw [HP]
      have HC : Hid (∀ X, InR X (.slice a m.length cap) m → Calls Try.prog 106 #[.agg #[], .agg #[.int .i64 x.1, .int .i64 x.2], .slice a m.length cap] X (ValP X (lowV x m))) := fun X hX => wHear_any x _ m X hX
      unfold ValP at *
      generalize lowV x m = r at *
      clear hL HP
      go_enter Try.func110, Try.ntmps110
      go_upto_region 1 with fail
      rw [← hW0]
      clear hW0
      go_wp2_with fail
      refine (HC.out _ R0.out).mono ?_
      rintro e w1 ⟨rfl, hb1⟩
      have B1 : Hid (Below w.heap.size w w1) := BH.out.trans (hb1.mono (by omega))
      have T2 : Hid (BX 53 w1 (w.heap.size + 2) #[.int .i64 0, .int .i64 0]) := T1.out.below hb1 (by omega)
      clear hb1 q0 q1 z0 pz
      obtain ⟨t0, t1, t2, t3⟩ := T2.out.all2
      have RX : Hid (BX 53 (put2 w1 (w.heap.size + 2) (.int .i64 r.1.1) (.int .i64 r.1.2)) (w.heap.size + 2) #[.int .i64 r.1.1, .int .i64 r.1.2]) := T2.out.put2 _ _
      have HX : Hid (Below w.heap.size w (put2 w1 (w.heap.size + 2) (.int .i64 r.1.1) (.int .i64 r.1.2))) := below_put2 B1.out (by omega) _ _
      go_wp2_with fail
      obtain ⟨r0, r1, _⟩ := RX.out.all2
      unfold put2 at r0 r1
      exact bodyPost_ret (v := .tuple #[.agg #[.int .i64 r.1.1, .int .i64 r.1.2], .bool r.2]) (by simp [results, Try.results110, go_sem, r0, r1]) rfl ⟨rfl, HX.out⟩
    · have HP : hearF (true, true) x m = labF x (hasB m x.1) := by unfold hearF; simp only; rw [if_pos hL]
      rw [HP]
      have CO : Hid (∀ X, InR X (.slice a m.length cap) m → Calls Try.prog 113 #[.slice a m.length cap, .int .i64 x.1] X fun e w' => ∃ v, e = .returned v ∧ (v = .bool (hasB m x.1) ∧ w' = X)) := fun X hX => (contains_any _ m x.1 X hX).mono (fun e w' h => ⟨_, h.1, rfl, h.2⟩)
      have LA : Hid (∀ X, Calls Try.prog 112 #[.agg #[.int .i64 x.1, .int .i64 x.2], .bool (hasB m x.1)] X fun e w' => ∃ v, e = .returned v ∧ (v = .tuple #[.agg #[.int .i64 (labF x (hasB m x.1)).1.1, .int .i64 (labF x (hasB m x.1)).1.2], .bool (labF x (hasB m x.1)).2] ∧ Below X.heap.size X w')) := fun X => (labelled_any x _ X).mono (fun e w' h => ⟨_, h.1, rfl, h.2⟩)
      have eco : ∀ args w, (callFunc 113 args).run Try.prog w = .ok (.enter 113 args) w := enters_of Try.func113 (by kernel_rfl) rfl
      have ela : ∀ args w, (callFunc 112 args).run Try.prog w = .ok (.enter 112 args) w := enters_of Try.func112 (by kernel_rfl) rfl
      have RD : Hid (InR W0.drew (.slice a m.length cap) m) := R0.out.below (Below.refl _ _).drew (Nat.le_refl _)
      unfold ValP at *
      generalize labF x (hasB m x.1) = r at *
      generalize hasB m x.1 = t at *
      clear hL HP pz
      go_enter Try.func110, Try.ntmps110
      go_upto_region 1 with fail
      rw [← hW0]
      clear hW0
      go_wp2_with fail
      have hq0 : W0.drew.cell? ⟨w.heap.size + 1, 0, none⟩ = some (.int .i64 x.1) := q0
      have hq1 : W0.drew.cell? ⟨w.heap.size + 1, 1, none⟩ = some (.int .i64 x.2) := q1
      clear q0 q1 z0
      refine wp_region_held (S := fun V => V.cell? ⟨w.heap.size + 1, 0, none⟩ = some (.int .i64 x.1) ∧ V.cell? ⟨w.heap.size + 1, 1, none⟩ = some (.int .i64 x.2)) (by kernel_rfl) ?_
      simp only [List.size_toArray, List.length_cons, List.length_nil, Nat.reduceAdd]
      refine takeH (i := 0) (v := .agg #[.int .i64 x.1, .int .i64 x.2]) (d := 16) rfl rfl (by kernel_rfl) (by kernel_rfl) (by kernel_rfl) (fun _ _ _ h => h) (by rfl) (fun V hV => by obtain ⟨v1, v2⟩ := hV; go_simp) ⟨hq0, hq1⟩ ?_
      simp only [Act.put, List.setIfInBounds_toArray, List.set_cons_zero, List.set_cons_succ]
      refine takeH (i := 1) (v := .slice a m.length cap) (d := 17) rfl rfl (by kernel_rfl) (by kernel_rfl) (by kernel_rfl) (fun _ _ _ h => h) (by rfl) (fun V hV => by obtain ⟨v1, v2⟩ := hV; go_simp) ⟨hq0, hq1⟩ ?_
      simp only [Act.put, List.setIfInBounds_toArray, List.set_cons_zero, List.set_cons_succ]
      refine takeH (i := 2) (v := .pointer (some ⟨w.heap.size + 1, 0, none⟩)) (d := 18) rfl rfl (by kernel_rfl) (by kernel_rfl) (by kernel_rfl) (fun _ _ _ h => h) (by rfl) (fun V hV => by obtain ⟨v1, v2⟩ := hV; go_simp) ⟨hq0, hq1⟩ ?_
      simp only [Act.put, List.setIfInBounds_toArray, List.set_cons_zero, List.set_cons_succ]
      refine takeH (i := 3) (v := .int .i64 x.1) (d := 19) rfl rfl (by kernel_rfl) (by kernel_rfl) (by kernel_rfl) (fun _ _ _ h => h) (by rfl) (fun V hV => by obtain ⟨v1, v2⟩ := hV; go_simp) ⟨hq0, hq1⟩ ?_
      simp only [Act.put, List.setIfInBounds_toArray, List.set_cons_zero, List.set_cons_succ]
      refine oneH (i := 4) rfl (by kernel_rfl) rfl (call_gets (d := 20) (f := 113) (xs := #[.tmp 17, .tmp 19]) (ats := #[57, 3]) rfl rfl eco (vs := #[.slice a m.length cap, .int .i64 x.1]) (by simp [Act.eval]) (CO.out _ RD.out) ?_)
      rintro vr w1 ⟨rfl, rfl⟩
      refine ⟨⟨hq0, hq1⟩, ?_⟩
      simp only [Act.put, List.setIfInBounds_toArray, List.set_cons_zero, List.set_cons_succ]
      refine oneH (i := 5) rfl (by kernel_rfl) rfl (call_gets (d := 21) (f := 112) (xs := #[.tmp 16, .tmp 20]) (ats := #[53, 4]) rfl rfl ela (vs := #[.agg #[.int .i64 x.1, .int .i64 x.2], .bool t]) (by simp [Act.eval]) (LA.out _) ?_)
      rintro vr w2 ⟨rfl, hb2⟩
      have S2 : w2.cell? ⟨w.heap.size + 1, 0, none⟩ = some (.int .i64 x.1) ∧ w2.cell? ⟨w.heap.size + 1, 1, none⟩ = some (.int .i64 x.2) := ⟨(hb2.cell (p := ⟨w.heap.size + 1, 0, none⟩) (show w.heap.size + 1 < W0.heap.size by omega)).trans hq0, (hb2.cell (p := ⟨w.heap.size + 1, 1, none⟩) (show w.heap.size + 1 < W0.heap.size by omega)).trans hq1⟩
      have B2 : Hid (Below w.heap.size w w2) := BH.out.drew.trans (hb2.mono (show w.heap.size ≤ W0.heap.size by omega))
      have T2 : Hid (BX 53 w2 (w.heap.size + 2) #[.int .i64 0, .int .i64 0]) := T1.out.drew.below hb2 (show w.heap.size + 2 < W0.heap.size by omega)
      clear hb2
      refine ⟨S2, ?_⟩
      simp only [Act.put, List.setIfInBounds_toArray, List.set_cons_zero, List.set_cons_succ]
      refine takeH (i := 6) (v := .agg #[.int .i64 r.1.1, .int .i64 r.1.2]) (d := 22) rfl rfl (by kernel_rfl) (by kernel_rfl) (by kernel_rfl) (fun _ _ _ h => h) (by rfl) (fun V hV => by obtain ⟨v1, v2⟩ := hV; go_simp) S2 ?_
      simp only [Act.put, List.setIfInBounds_toArray, List.set_cons_zero, List.set_cons_succ]
      refine takeH (i := 7) (v := .bool r.2) (d := 23) rfl rfl (by kernel_rfl) (by kernel_rfl) (by kernel_rfl) (fun _ _ _ h => h) (by rfl) (fun V hV => by obtain ⟨v1, v2⟩ := hV; go_simp) S2 ?_
      simp only [Act.put, List.setIfInBounds_toArray, List.set_cons_zero, List.set_cons_succ]
      obtain ⟨n0, n1, n2, n3⟩ := T2.out.all2
      have RX : Hid (BX 53 (put2 w2 (w.heap.size + 2) (.int .i64 r.1.1) (.int .i64 r.1.2)) (w.heap.size + 2) #[.int .i64 r.1.1, .int .i64 r.1.2]) := T2.out.put2 _ _
      have HX : Hid (Below w.heap.size w (put2 w2 (w.heap.size + 2) (.int .i64 r.1.1) (.int .i64 r.1.2))) := below_put2 B2.out (by omega) _ _
      have S3 : (put2 w2 (w.heap.size + 2) (.int .i64 r.1.1) (.int .i64 r.1.2)).cell? ⟨w.heap.size + 1, 0, none⟩ = some (.int .i64 x.1) ∧ (put2 w2 (w.heap.size + 2) (.int .i64 r.1.1) (.int .i64 r.1.2)).cell? ⟨w.heap.size + 1, 1, none⟩ = some (.int .i64 x.2) := ⟨by rw [put2_cell (by omega)]; exact S2.1, by rw [put2_cell (by omega)]; exact S2.2⟩
      refine oneH (i := 8) rfl (by kernel_rfl) rfl (op_skip (w' := put2 w2 (w.heap.size + 2) (.int .i64 r.1.1) (.int .i64 r.1.2)) rfl (by unfold put2; go_simp) ⟨S3, ?_⟩)
      clear n0 n1 n2 n3
      generalize put2 w2 (w.heap.size + 2) (.int .i64 r.1.1) (.int .i64 r.1.2) = w3 at *
      refine takeH (i := 9) (v := .bool r.2) (d := 7) rfl rfl (by kernel_rfl) (by kernel_rfl) (by kernel_rfl) (fun _ _ _ h => h) (by rfl) (fun V hV => by obtain ⟨v1, v2⟩ := hV; go_simp) S3 ?_
      simp only [Act.put, List.setIfInBounds_toArray, List.set_cons_zero, List.set_cons_succ]
      refine wpAnyH_done (by kernel_rfl) ?_ _
      clear S2 S3
      go_wp2_with fail
      obtain ⟨r0, r1, _⟩ := RX.out.all2
      exact bodyPost_ret (v := .tuple #[.agg #[.int .i64 r.1.1, .int .i64 r.1.2], .bool r.2]) (by simp [results, Try.results110, go_sem, r0, r1]) rfl ⟨rfl, HX.out⟩
  · have d1 : (x.2 != -1) = true := by simpa using hL
    have HP : hearF (true, b) x m = (x, false) := by unfold hearF; cases b <;> (simp only; rw [if_neg hL])
    rw [HP]
    unfold ValP
    clear hL HP pz
    have RX : Hid (BX 53 (put2 W0 (w.heap.size + 2) (.int .i64 x.1) (.int .i64 x.2)) (w.heap.size + 2) #[.int .i64 x.1, .int .i64 x.2]) := T1.out.put2 _ _
    have HX : Hid (Below w.heap.size w (put2 W0 (w.heap.size + 2) (.int .i64 x.1) (.int .i64 x.2))) := below_put2 BH.out (by omega) _ _
    obtain ⟨t0, t1, t2, t3⟩ := T1.out.all2
    go_enter Try.func110, Try.ntmps110
    go_upto_region 1 with fail
    rw [← hW0]
    clear hW0
    go_wp2_with fail
    obtain ⟨r0, r1, _⟩ := RX.out.all2
    unfold put2 at r0 r1
    exact bodyPost_ret (v := .tuple #[.agg #[.int .i64 x.1, .int .i64 x.2], .bool false]) (by simp [results, Try.results110, go_sem, r0, r1]) rfl ⟨rfl, HX.out⟩
end Go.Proofs.Ytinijeejfnehmaa
