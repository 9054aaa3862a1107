/-
  Contract of the document's own LinkHeard.
-/
import Derived.Test.YtjmjpmnjibdhhaaLinkHear
import Derived.Test.YtjmjpmnjibdhhaaRefLink
namespace Go.Proofs.Ytjmjpmnjibdhhaa
set_option maxRecDepth 100000
open Go.ChangeShapes Go.WideShapes Go.ChangeAt Go.RowKit

set_option maxHeartbeats 2000000 in
set_option maxRecDepth 100000 in
theorem refHeard_any (e k x n : Int) (m : Ml) (w : World) :
    Calls Try.prog 21 #[.agg #[.int .i64 e, .int .i64 k], .agg #[.int .i64 x, .int .i64 n, .int .i64 m.1, .int .i64 m.2]] w (HeaP w (hearE e k x) e (hearW k n) (hearL k n m)) := by
  cases hm : wi e
  · have hE : hearE e k x = 9 := by unfold hearE; rw [hm]; rfl
    have C1 := fun X => inW_is hm X
    have HE : Hid (∀ w', Below w.heap.size w w' → HeaP w (hearE e k x) e (hearW k n) (hearL k n m) (.returned (.tuple #[.agg #[.int .i64 0, .int .i64 0], .slice none 0 0, .agg #[.int .i64 0, .int .i64 0], .int .i64 9])) w') := fun w' hw => by rw [hE]; exact HeaP.no (by decide) hw
    generalize HeaP w (hearE e k x) e (hearW k n) (hearL k n m) = P at *
    clear hE hm
    go_enter Try.func21, Try.ntmps21
    go_upto_region 1 with fail
    obtain ⟨Q0, M0, T0, U0, B0, s1, s2⟩ := boxes4 w #[.int .i64 e, .int .i64 k] #[.int .i64 x, .int .i64 n, .int .i64 m.1, .int .i64 m.2] #[.int .i64 0, .int .i64 0] #[.int .i64 0, .int .i64 0] 26 48 26 44 _ rfl
    generalize (((w.alloc (.cells #[.int .i64 e, .int .i64 k] 26)).alloc (.cells #[.int .i64 x, .int .i64 n, .int .i64 m.1, .int .i64 m.2] 48)).alloc (.cells #[.int .i64 0, .int .i64 0] 26)).alloc (.cells #[.int .i64 0, .int .i64 0] 44) = W0 at *
    have R1 : Hid (BX 26 W0 w.heap.size #[.int .i64 e, .int .i64 k]) := Q0
    have T1 : Hid (BX 26 W0 (w.heap.size + 2) #[.int .i64 0, .int .i64 0]) := T0
    have U1 : Hid (BX 44 W0 (w.heap.size + 3) #[.int .i64 0, .int .i64 0]) := U0
    have BH : Hid (Below w.heap.size w W0) := B0
    obtain ⟨q0, q1, _⟩ := Q0.all2
    have MX : Hid (BX 48 W0 (w.heap.size + 1) #[.int .i64 x, .int .i64 n, .int .i64 m.1, .int .i64 m.2]) := M0
    obtain ⟨m0, m1, m2, m3⟩ := M0.all4
    clear Q0 M0 T0 U0 B0
    go_wp2_with fail
    refine (C1 _).mono ?_
    rintro E w1 ⟨rfl, hw⟩
    replace hw := hw.symm
    subst hw
    have HX : Hid (P (.returned (.tuple #[.agg #[(.int .i64 0), (.int .i64 0)], .slice none 0 0, .agg #[(.int .i64 0), (.int .i64 0)], .int .i64 9])) (put2 (put2 W0 (w.heap.size + 2) (.int .i64 0) (.int .i64 0)) (w.heap.size + 3) (.int .i64 0) (.int .i64 0))) := HE.out _ (below_put2 (below_put2 BH.out (by omega) _ _) (by omega) _ _)
    have RX : Hid (BX 26 (put2 (put2 W0 (w.heap.size + 2) (.int .i64 0) (.int .i64 0)) (w.heap.size + 3) (.int .i64 0) (.int .i64 0)) (w.heap.size + 2) #[(.int .i64 0), (.int .i64 0)]) := (T1.out.put2 (.int .i64 0) (.int .i64 0)).off2 (by omega)
    have RY : Hid (BX 44 (put2 (put2 W0 (w.heap.size + 2) (.int .i64 0) (.int .i64 0)) (w.heap.size + 3) (.int .i64 0) (.int .i64 0)) (w.heap.size + 3) #[(.int .i64 0), (.int .i64 0)]) := BX.put2 (U1.out.off2 (by omega)) (.int .i64 0) (.int .i64 0)
    obtain ⟨t0, t1, t2, t3⟩ := T1.out.all2
    obtain ⟨y0, y1, y2, y3⟩ := U1.out.all2
    go_wp2_with fail
    obtain ⟨r0, r1, _⟩ := RX.out.all2
    obtain ⟨r3, r4, _⟩ := RY.out.all2
    unfold put2 at r0 r1 r3 r4
    exact bodyPost_ret (v := .tuple #[.agg #[(.int .i64 0), (.int .i64 0)], .slice none 0 0, .agg #[(.int .i64 0), (.int .i64 0)], .int .i64 9]) (by simp [results, Try.results21, go_sem, r0, r1, r3, r4]) rfl HX.out
  · have C1 := fun X => inW_is hm X
    cases hm2 : wi k
    · have hE : hearE e k x = 9 := by unfold hearE; rw [hm, hm2]; rfl
      have C2 := fun X => inW_is hm2 X
      have HE : Hid (∀ w', Below w.heap.size w w' → HeaP w (hearE e k x) e (hearW k n) (hearL k n m) (.returned (.tuple #[.agg #[.int .i64 0, .int .i64 0], .slice none 0 0, .agg #[.int .i64 0, .int .i64 0], .int .i64 9])) w') := fun w' hw => by rw [hE]; exact HeaP.no (by decide) hw
      generalize HeaP w (hearE e k x) e (hearW k n) (hearL k n m) = P at *
      clear hE hm hm2
      go_enter Try.func21, Try.ntmps21
      go_upto_region 1 with fail
      obtain ⟨Q0, M0, T0, U0, B0, s1, s2⟩ := boxes4 w #[.int .i64 e, .int .i64 k] #[.int .i64 x, .int .i64 n, .int .i64 m.1, .int .i64 m.2] #[.int .i64 0, .int .i64 0] #[.int .i64 0, .int .i64 0] 26 48 26 44 _ rfl
      generalize (((w.alloc (.cells #[.int .i64 e, .int .i64 k] 26)).alloc (.cells #[.int .i64 x, .int .i64 n, .int .i64 m.1, .int .i64 m.2] 48)).alloc (.cells #[.int .i64 0, .int .i64 0] 26)).alloc (.cells #[.int .i64 0, .int .i64 0] 44) = W0 at *
      have R1 : Hid (BX 26 W0 w.heap.size #[.int .i64 e, .int .i64 k]) := Q0
      have T1 : Hid (BX 26 W0 (w.heap.size + 2) #[.int .i64 0, .int .i64 0]) := T0
      have U1 : Hid (BX 44 W0 (w.heap.size + 3) #[.int .i64 0, .int .i64 0]) := U0
      have BH : Hid (Below w.heap.size w W0) := B0
      obtain ⟨q0, q1, _⟩ := Q0.all2
      have MX : Hid (BX 48 W0 (w.heap.size + 1) #[.int .i64 x, .int .i64 n, .int .i64 m.1, .int .i64 m.2]) := M0
      obtain ⟨m0, m1, m2, m3⟩ := M0.all4
      clear Q0 M0 T0 U0 B0
      go_wp2_with fail
      refine (C1 _).mono ?_
      rintro E w1 ⟨rfl, hw⟩
      replace hw := hw.symm
      subst hw
      go_wp2_with fail
      refine (C2 _).mono ?_
      rintro E w1 ⟨rfl, hw⟩
      replace hw := hw.symm
      subst hw
      have HX : Hid (P (.returned (.tuple #[.agg #[(.int .i64 0), (.int .i64 0)], .slice none 0 0, .agg #[(.int .i64 0), (.int .i64 0)], .int .i64 9])) (put2 (put2 W0 (w.heap.size + 2) (.int .i64 0) (.int .i64 0)) (w.heap.size + 3) (.int .i64 0) (.int .i64 0))) := HE.out _ (below_put2 (below_put2 BH.out (by omega) _ _) (by omega) _ _)
      have RX : Hid (BX 26 (put2 (put2 W0 (w.heap.size + 2) (.int .i64 0) (.int .i64 0)) (w.heap.size + 3) (.int .i64 0) (.int .i64 0)) (w.heap.size + 2) #[(.int .i64 0), (.int .i64 0)]) := (T1.out.put2 (.int .i64 0) (.int .i64 0)).off2 (by omega)
      have RY : Hid (BX 44 (put2 (put2 W0 (w.heap.size + 2) (.int .i64 0) (.int .i64 0)) (w.heap.size + 3) (.int .i64 0) (.int .i64 0)) (w.heap.size + 3) #[(.int .i64 0), (.int .i64 0)]) := BX.put2 (U1.out.off2 (by omega)) (.int .i64 0) (.int .i64 0)
      obtain ⟨t0, t1, t2, t3⟩ := T1.out.all2
      obtain ⟨y0, y1, y2, y3⟩ := U1.out.all2
      go_wp2_with fail
      obtain ⟨r0, r1, _⟩ := RX.out.all2
      obtain ⟨r3, r4, _⟩ := RY.out.all2
      unfold put2 at r0 r1 r3 r4
      exact bodyPost_ret (v := .tuple #[.agg #[(.int .i64 0), (.int .i64 0)], .slice none 0 0, .agg #[(.int .i64 0), (.int .i64 0)], .int .i64 9]) (by simp [results, Try.results21, go_sem, r0, r1, r3, r4]) rfl HX.out
    · have C2 := fun X => inW_is hm2 X
      obtain ⟨k0, k1⟩ := wi_iff.1 hm2
      by_cases hx : x = e
      · subst hx
        have hE : hearE x k x = 0 := by unfold hearE; rw [hm, hm2]; simp
        have dx : (x != x) = false := by simp
        by_cases hn : n = k
        · subst hn
          have hW : hearW n n = n + 1 := by unfold hearW; rw [if_pos rfl]
          have hL : hearL n n m = [m] := by unfold hearL; rw [if_pos rfl]
          have HE : Hid (∀ v w', w'.ownsRow w.heap.size 33 2 v 1 (encM m) → Below w.heap.size w w' → HeaP w (hearE x n x) x (hearW n n) (hearL n n m) (.returned (.tuple #[.agg #[.int .i64 x, .int .i64 (n + 1)], v, .agg #[.int .i64 x, .int .i64 (n + 1)], .int .i64 0])) w') := fun v w' h1 hw => by rw [hE, hW, hL]; exact HeaP.yes (by simpa using h1) hw
          generalize HeaP w (hearE x n x) x (hearW n n) (hearL n n m) = P at *
          have dn : (n != n) = false := by simp
          clear hE hW hL hm hm2
          go_enter Try.func21, Try.ntmps21
          go_upto_region 1 with fail
          obtain ⟨Q0, M0, T0, U0, B0, s1, s2⟩ := boxes4 w #[.int .i64 x, .int .i64 n] #[.int .i64 x, .int .i64 n, .int .i64 m.1, .int .i64 m.2] #[.int .i64 0, .int .i64 0] #[.int .i64 0, .int .i64 0] 26 48 26 44 _ rfl
          generalize (((w.alloc (.cells #[.int .i64 x, .int .i64 n] 26)).alloc (.cells #[.int .i64 x, .int .i64 n, .int .i64 m.1, .int .i64 m.2] 48)).alloc (.cells #[.int .i64 0, .int .i64 0] 26)).alloc (.cells #[.int .i64 0, .int .i64 0] 44) = W0 at *
          have R1 : Hid (BX 26 W0 w.heap.size #[.int .i64 x, .int .i64 n]) := Q0
          have T1 : Hid (BX 26 W0 (w.heap.size + 2) #[.int .i64 0, .int .i64 0]) := T0
          have U1 : Hid (BX 44 W0 (w.heap.size + 3) #[.int .i64 0, .int .i64 0]) := U0
          have BH : Hid (Below w.heap.size w W0) := B0
          obtain ⟨q0, q1, _⟩ := Q0.all2
          have MX : Hid (BX 48 W0 (w.heap.size + 1) #[.int .i64 x, .int .i64 n, .int .i64 m.1, .int .i64 m.2]) := M0
          obtain ⟨m0, m1, m2, m3⟩ := M0.all4
          clear Q0 M0 T0 U0 B0
          go_wp2_with fail
          refine (C1 _).mono ?_
          rintro E w1 ⟨rfl, hw⟩
          replace hw := hw.symm
          subst hw
          go_wp2_with fail
          refine (C2 _).mono ?_
          rintro E w1 ⟨rfl, hw⟩
          replace hw := hw.symm
          subst hw
          have wn : IntKind.i64.wrap (n + 1) = n + 1 := wrap_id64 (by omega) (by omega)
          go_upto_region 8 with fail
          rw [show w.heap.size + 1 + 1 + 1 = w.heap.size + 3 from rfl, show w.heap.size + 1 + 1 = w.heap.size + 2 from rfl]
          have N1 : BX 26 (W0.alloc (.cells #[.int .i64 x, .int .i64 (n + 1)] 26)) W0.heap.size #[.int .i64 x, .int .i64 (n + 1)] := BX.new _ _ _
          have b1 : Below W0.heap.size W0 (W0.alloc (.cells #[.int .i64 x, .int .i64 (n + 1)] 26)) := below_alloc _ _
          have hs1 : W0.heap.size < (W0.alloc (.cells #[.int .i64 x, .int .i64 (n + 1)] 26)).heap.size := by simp
          generalize W0.alloc (.cells #[.int .i64 x, .int .i64 (n + 1)] 26) = V at *
          generalize n + 1 = n1 at *
          have NX : Hid (BX 26 V W0.heap.size #[.int .i64 x, .int .i64 n1]) := N1
          have B5 : Hid (Below W0.heap.size W0 V) := b1
          obtain ⟨q0, q1, _⟩ := (R1.out.below b1 (by omega)).all2
          obtain ⟨n0, n2, _⟩ := N1.all2
          obtain ⟨m0, m1, m2, m3⟩ := (MX.out.below b1 (by omega)).all4
          have Z5 : Hid (BX 26 V (w.heap.size + 2) #[.int .i64 0, .int .i64 0]) := T1.out.below b1 (by omega)
          have Y5 : Hid (BX 44 V (w.heap.size + 3) #[.int .i64 0, .int .i64 0]) := U1.out.below b1 (by omega)
          clear N1 b1
          have MV : Hid (BX 48 V (w.heap.size + 1) #[.int .i64 x, .int .i64 n, .int .i64 m.1, .int .i64 m.2]) := MX.out.below B5.out (by omega)
          have RV : Hid (BX 26 V w.heap.size #[.int .i64 x, .int .i64 n]) := R1.out.below B5.out (by omega)
          clear q0 q1 n0 n2 m0 m1 m2 m3
          have HSD : Hid ((V.drew.cell? ⟨W0.heap.size, 0, none⟩ = some (.int .i64 x) ∧ V.drew.cell? ⟨W0.heap.size, 1, none⟩ = some (.int .i64 n1)) ∧ (V.drew.cell? ⟨w.heap.size + 1, 2, none⟩ = some (.int .i64 m.1) ∧ V.drew.cell? ⟨w.heap.size + 1, 3, none⟩ = some (.int .i64 m.2)) ∧ V.drew.cell? ⟨w.heap.size, 0, none⟩ = some (.int .i64 x)) := ⟨⟨NX.out.all2.1, NX.out.all2.2.1⟩, ⟨MV.out.all4.2.2.1, MV.out.all4.2.2.2⟩, RV.out.all2.1⟩
          refine wp_region_held (S := fun V => (V.cell? ⟨W0.heap.size, 0, none⟩ = some (.int .i64 x) ∧ V.cell? ⟨W0.heap.size, 1, none⟩ = some (.int .i64 n1)) ∧ (V.cell? ⟨w.heap.size + 1, 2, none⟩ = some (.int .i64 m.1) ∧ V.cell? ⟨w.heap.size + 1, 3, none⟩ = some (.int .i64 m.2)) ∧ V.cell? ⟨w.heap.size, 0, none⟩ = some (.int .i64 x)) (by kernel_rfl) ?_
          simp only [List.size_toArray, List.length_cons, List.length_nil, Nat.reduceAdd]
          refine takeH (i := 0) (v := .agg #[.int .i64 x, .int .i64 n1]) (d := 45) rfl rfl (by kernel_rfl) (by kernel_rfl) (by kernel_rfl) (fun _ _ _ h => h) (by rfl) (fun V hV => by obtain ⟨⟨v1, v2⟩, ⟨v3, v4⟩, v5⟩ := hV; go_simp) HSD.out ?_
          simp only [Act.put, List.setIfInBounds_toArray, List.set_cons_zero, List.set_cons_succ]
          refine takeH (i := 1) (v := .pointer (some ⟨w.heap.size + 1, 2, none⟩)) (d := 46) rfl rfl (by kernel_rfl) (by kernel_rfl) (by kernel_rfl) (fun _ _ _ h => h) (by rfl) (fun V hV => by obtain ⟨⟨v1, v2⟩, ⟨v3, v4⟩, v5⟩ := hV; go_simp) HSD.out ?_
          simp only [Act.put, List.setIfInBounds_toArray, List.set_cons_zero, List.set_cons_succ]
          refine takeH (i := 2) (v := .agg #[.int .i64 m.1, .int .i64 m.2]) (d := 47) rfl rfl (by kernel_rfl) (by kernel_rfl) (by kernel_rfl) (fun _ _ _ h => h) (by rfl) (fun V hV => by obtain ⟨⟨v1, v2⟩, ⟨v3, v4⟩, v5⟩ := hV; go_simp) HSD.out ?_
          simp only [Act.put, List.setIfInBounds_toArray, List.set_cons_zero, List.set_cons_succ]
          refine takeH (i := 4) (v := .pointer (some ⟨w.heap.size, 0, none⟩)) (d := 49) rfl rfl (by kernel_rfl) (by kernel_rfl) (by kernel_rfl) (fun _ _ _ h => h) (by rfl) (fun V hV => by obtain ⟨⟨v1, v2⟩, ⟨v3, v4⟩, v5⟩ := hV; go_simp) HSD.out ?_
          simp only [Act.put, List.setIfInBounds_toArray, List.set_cons_zero, List.set_cons_succ]
          refine takeH (i := 5) (v := .int .i64 x) (d := 50) rfl rfl (by kernel_rfl) (by kernel_rfl) (by kernel_rfl) (fun _ _ _ h => h) (by rfl) (fun V hV => by obtain ⟨⟨v1, v2⟩, ⟨v3, v4⟩, v5⟩ := hV; go_simp) HSD.out ?_
          simp only [Act.put, List.setIfInBounds_toArray, List.set_cons_zero, List.set_cons_succ]
          refine takeH (i := 6) (v := .pointer (some ⟨W0.heap.size, 1, none⟩)) (d := 51) rfl rfl (by kernel_rfl) (by kernel_rfl) (by kernel_rfl) (fun _ _ _ h => h) (by rfl) (fun V hV => by obtain ⟨⟨v1, v2⟩, ⟨v3, v4⟩, v5⟩ := hV; go_simp) HSD.out ?_
          simp only [Act.put, List.setIfInBounds_toArray, List.set_cons_zero, List.set_cons_succ]
          refine takeH (i := 7) (v := .int .i64 n1) (d := 52) rfl rfl (by kernel_rfl) (by kernel_rfl) (by kernel_rfl) (fun _ _ _ h => h) (by rfl) (fun V hV => by obtain ⟨⟨v1, v2⟩, ⟨v3, v4⟩, v5⟩ := hV; go_simp) HSD.out ?_
          simp only [Act.put, List.setIfInBounds_toArray, List.set_cons_zero, List.set_cons_succ]
          refine takeH (i := 8) (v := .agg #[.int .i64 x, .int .i64 n1]) (d := 53) rfl rfl (by kernel_rfl) (by kernel_rfl) (by kernel_rfl) (fun _ _ _ h => h) (by rfl) (fun V hV => by obtain ⟨⟨v1, v2⟩, ⟨v3, v4⟩, v5⟩ := hV; go_simp) HSD.out ?_
          simp only [Act.put, List.setIfInBounds_toArray, List.set_cons_zero, List.set_cons_succ]
          obtain ⟨t0, t1, t2, t3⟩ := Z5.out.all2
          have HSB : Hid (((put2 V.drew (w.heap.size + 2) (.int .i64 x) (.int .i64 n1)).cell? ⟨W0.heap.size, 0, none⟩ = some (.int .i64 x) ∧ (put2 V.drew (w.heap.size + 2) (.int .i64 x) (.int .i64 n1)).cell? ⟨W0.heap.size, 1, none⟩ = some (.int .i64 n1)) ∧ ((put2 V.drew (w.heap.size + 2) (.int .i64 x) (.int .i64 n1)).cell? ⟨w.heap.size + 1, 2, none⟩ = some (.int .i64 m.1) ∧ (put2 V.drew (w.heap.size + 2) (.int .i64 x) (.int .i64 n1)).cell? ⟨w.heap.size + 1, 3, none⟩ = some (.int .i64 m.2)) ∧ (put2 V.drew (w.heap.size + 2) (.int .i64 x) (.int .i64 n1)).cell? ⟨w.heap.size, 0, none⟩ = some (.int .i64 x)) := ⟨⟨(NX.out.drew.off2 (p := w.heap.size + 2) (by omega)).all2.1, (NX.out.drew.off2 (p := w.heap.size + 2) (by omega)).all2.2.1⟩, ⟨(MV.out.drew.off2 (p := w.heap.size + 2) (by omega)).all4.2.2.1, (MV.out.drew.off2 (p := w.heap.size + 2) (by omega)).all4.2.2.2⟩, (RV.out.drew.off2 (p := w.heap.size + 2) (by omega)).all2.1⟩
          have a6 : Below V.heap.size V (V.alloc (.cells #[.int .i64 m.1, .int .i64 m.2] 33)).drew := (below_alloc _ _).drew
          have NA : Hid (BX 26 (V.alloc (.cells #[.int .i64 m.1, .int .i64 m.2] 33)).drew W0.heap.size #[.int .i64 x, .int .i64 n1]) := NX.out.below a6 (by omega)
          have MA : Hid (BX 48 (V.alloc (.cells #[.int .i64 m.1, .int .i64 m.2] 33)).drew (w.heap.size + 1) #[.int .i64 x, .int .i64 n, .int .i64 m.1, .int .i64 m.2]) := MV.out.below a6 (by omega)
          have RA : Hid (BX 26 (V.alloc (.cells #[.int .i64 m.1, .int .i64 m.2] 33)).drew w.heap.size #[.int .i64 x, .int .i64 n]) := RV.out.below a6 (by omega)
          have HSE : Hid (((V.alloc (.cells #[.int .i64 m.1, .int .i64 m.2] 33)).drew.cell? ⟨W0.heap.size, 0, none⟩ = some (.int .i64 x) ∧ (V.alloc (.cells #[.int .i64 m.1, .int .i64 m.2] 33)).drew.cell? ⟨W0.heap.size, 1, none⟩ = some (.int .i64 n1)) ∧ ((V.alloc (.cells #[.int .i64 m.1, .int .i64 m.2] 33)).drew.cell? ⟨w.heap.size + 1, 2, none⟩ = some (.int .i64 m.1) ∧ (V.alloc (.cells #[.int .i64 m.1, .int .i64 m.2] 33)).drew.cell? ⟨w.heap.size + 1, 3, none⟩ = some (.int .i64 m.2)) ∧ (V.alloc (.cells #[.int .i64 m.1, .int .i64 m.2] 33)).drew.cell? ⟨w.heap.size, 0, none⟩ = some (.int .i64 x)) := ⟨⟨NA.out.all2.1, NA.out.all2.2.1⟩, ⟨MA.out.all4.2.2.1, MA.out.all4.2.2.2⟩, RA.out.all2.1⟩
          refine twoH (i := 3) (j := 9) rfl rfl (by kernel_rfl) rfl rfl (op_run (d := 48) (v' := .slice (some ⟨V.heap.size, 0, none⟩) 1 1) (w' := (V.alloc (.cells #[.int .i64 m.1, .int .i64 m.2] 33)).drew) rfl (by go_simp) ⟨HSE.out, ?_⟩) (op_skip (w' := (put2 V.drew (w.heap.size + 2) (.int .i64 x) (.int .i64 n1))) rfl (by unfold put2; go_simp) ⟨HSB.out, ?_⟩)
          · simp only [Act.put, List.setIfInBounds_toArray, List.set_cons_zero, List.set_cons_succ]
            have O6 : Hid ((V.alloc (.cells #[.int .i64 m.1, .int .i64 m.2] 33)).drew.ownsRow W0.heap.size 33 2 (.slice (some ⟨V.heap.size, 0, none⟩) 1 1) 1 (encM m)) := ⟨rfl, .inr ⟨V.heap.size, 1, #[.int .i64 m.1, .int .i64 m.2], rfl, by omega, heap_alloc_new _ _, by simp, by simp [maxLen], by simp, by simp [encM]⟩⟩
            have B6 : Hid (Below w.heap.size w (V.alloc (.cells #[.int .i64 m.1, .int .i64 m.2] 33)).drew) := BH.out.trans ((B5.out.trans (a6.mono (by omega))).mono (by omega))
            have Z6 : Hid (BX 26 (V.alloc (.cells #[.int .i64 m.1, .int .i64 m.2] 33)).drew (w.heap.size + 2) #[.int .i64 0, .int .i64 0]) := Z5.out.below a6 (by omega)
            have Y6 : Hid (BX 44 (V.alloc (.cells #[.int .i64 m.1, .int .i64 m.2] 33)).drew (w.heap.size + 3) #[.int .i64 0, .int .i64 0]) := Y5.out.below a6 (by omega)
            clear a6 HSB HSE HSD t0 t1 t2 t3
            generalize (V.alloc (.cells #[.int .i64 m.1, .int .i64 m.2] 33)).drew = A6 at *
            generalize V.heap.size = hh at *
            obtain ⟨t0, t1, t2, t3⟩ := Z6.out.all2
            have Z1 : Hid (BX 26 (put2 A6 (w.heap.size + 2) (.int .i64 x) (.int .i64 n1)) (w.heap.size + 2) #[.int .i64 x, .int .i64 n1]) := Z6.out.put2 _ _
            have Y1 : Hid (BX 44 (put2 A6 (w.heap.size + 2) (.int .i64 x) (.int .i64 n1)) (w.heap.size + 3) #[.int .i64 0, .int .i64 0]) := Y6.out.off2 (by omega)
            have O1 : Hid ((put2 A6 (w.heap.size + 2) (.int .i64 x) (.int .i64 n1)).ownsRow W0.heap.size 33 2 (.slice (some ⟨hh, 0, none⟩) 1 1) 1 (encM m)) := Z6.out.own2 O6.out (by decide)
            have B1 : Hid (Below w.heap.size w (put2 A6 (w.heap.size + 2) (.int .i64 x) (.int .i64 n1))) := below_put2 B6.out (by omega) _ _
            replace NA : Hid (BX 26 (put2 A6 (w.heap.size + 2) (.int .i64 x) (.int .i64 n1)) W0.heap.size #[.int .i64 x, .int .i64 n1]) := NA.out.off2 (by omega)
            replace MA : Hid (BX 48 (put2 A6 (w.heap.size + 2) (.int .i64 x) (.int .i64 n1)) (w.heap.size + 1) #[.int .i64 x, .int .i64 n, .int .i64 m.1, .int .i64 m.2]) := MA.out.off2 (by omega)
            replace RA : Hid (BX 26 (put2 A6 (w.heap.size + 2) (.int .i64 x) (.int .i64 n1)) w.heap.size #[.int .i64 x, .int .i64 n]) := RA.out.off2 (by omega)
            have HSE : Hid (((put2 A6 (w.heap.size + 2) (.int .i64 x) (.int .i64 n1)).cell? ⟨W0.heap.size, 0, none⟩ = some (.int .i64 x) ∧ (put2 A6 (w.heap.size + 2) (.int .i64 x) (.int .i64 n1)).cell? ⟨W0.heap.size, 1, none⟩ = some (.int .i64 n1)) ∧ ((put2 A6 (w.heap.size + 2) (.int .i64 x) (.int .i64 n1)).cell? ⟨w.heap.size + 1, 2, none⟩ = some (.int .i64 m.1) ∧ (put2 A6 (w.heap.size + 2) (.int .i64 x) (.int .i64 n1)).cell? ⟨w.heap.size + 1, 3, none⟩ = some (.int .i64 m.2)) ∧ (put2 A6 (w.heap.size + 2) (.int .i64 x) (.int .i64 n1)).cell? ⟨w.heap.size, 0, none⟩ = some (.int .i64 x)) := ⟨⟨NA.out.all2.1, NA.out.all2.2.1⟩, ⟨MA.out.all4.2.2.1, MA.out.all4.2.2.2⟩, RA.out.all2.1⟩
            refine oneH (i := 9) rfl (by kernel_rfl) rfl (op_skip (w' := put2 A6 (w.heap.size + 2) (.int .i64 x) (.int .i64 n1)) rfl (by unfold put2; go_simp) ⟨HSE.out, ?_⟩)
            clear HSE t0 t1 t2 t3
            generalize put2 A6 (w.heap.size + 2) (.int .i64 x) (.int .i64 n1) = X1 at *
            have HSF : Hid ((X1.cell? ⟨W0.heap.size, 0, none⟩ = some (.int .i64 x) ∧ X1.cell? ⟨W0.heap.size, 1, none⟩ = some (.int .i64 n1)) ∧ (X1.cell? ⟨w.heap.size + 1, 2, none⟩ = some (.int .i64 m.1) ∧ X1.cell? ⟨w.heap.size + 1, 3, none⟩ = some (.int .i64 m.2)) ∧ X1.cell? ⟨w.heap.size, 0, none⟩ = some (.int .i64 x)) := ⟨⟨NA.out.all2.1, NA.out.all2.2.1⟩, ⟨MA.out.all4.2.2.1, MA.out.all4.2.2.2⟩, RA.out.all2.1⟩
            refine takeH (i := 10) (v := .slice (some ⟨hh, 0, none⟩) 1 1) (d := 5) rfl rfl (by kernel_rfl) (by kernel_rfl) (by kernel_rfl) (fun _ _ _ h => h) (by rfl) (fun V hV => by obtain ⟨⟨v1, v2⟩, ⟨v3, v4⟩, v5⟩ := hV; go_simp) HSF.out ?_
            simp only [Act.put, List.setIfInBounds_toArray, List.set_cons_zero, List.set_cons_succ]
            obtain ⟨y0, y1, y2, y3⟩ := Y1.out.all2
            have HSG : Hid (((put2 X1 (w.heap.size + 3) (.int .i64 x) (.int .i64 n1)).cell? ⟨W0.heap.size, 0, none⟩ = some (.int .i64 x) ∧ (put2 X1 (w.heap.size + 3) (.int .i64 x) (.int .i64 n1)).cell? ⟨W0.heap.size, 1, none⟩ = some (.int .i64 n1)) ∧ ((put2 X1 (w.heap.size + 3) (.int .i64 x) (.int .i64 n1)).cell? ⟨w.heap.size + 1, 2, none⟩ = some (.int .i64 m.1) ∧ (put2 X1 (w.heap.size + 3) (.int .i64 x) (.int .i64 n1)).cell? ⟨w.heap.size + 1, 3, none⟩ = some (.int .i64 m.2)) ∧ (put2 X1 (w.heap.size + 3) (.int .i64 x) (.int .i64 n1)).cell? ⟨w.heap.size, 0, none⟩ = some (.int .i64 x)) := ⟨⟨(NA.out.off2 (p := w.heap.size + 3) (by omega)).all2.1, (NA.out.off2 (p := w.heap.size + 3) (by omega)).all2.2.1⟩, ⟨(MA.out.off2 (p := w.heap.size + 3) (by omega)).all4.2.2.1, (MA.out.off2 (p := w.heap.size + 3) (by omega)).all4.2.2.2⟩, (RA.out.off2 (p := w.heap.size + 3) (by omega)).all2.1⟩
            have HX : Hid (P (.returned (.tuple #[.agg #[.int .i64 x, .int .i64 n1], .slice (some ⟨hh, 0, none⟩) 1 1, .agg #[.int .i64 x, .int .i64 n1], .int .i64 0])) (put2 X1 (w.heap.size + 3) (.int .i64 x) (.int .i64 n1))) := HE.out _ _ (own_lower (Y1.out.own2 O1.out (by decide)) (by omega)) (below_put2 B1.out (by omega) _ _)
            have RX : Hid (BX 26 (put2 X1 (w.heap.size + 3) (.int .i64 x) (.int .i64 n1)) (w.heap.size + 2) #[.int .i64 x, .int .i64 n1]) := Z1.out.off2 (by omega)
            have RY : Hid (BX 44 (put2 X1 (w.heap.size + 3) (.int .i64 x) (.int .i64 n1)) (w.heap.size + 3) #[.int .i64 x, .int .i64 n1]) := Y1.out.put2 _ _
            refine oneH (i := 11) rfl (by kernel_rfl) rfl (op_skip (w' := put2 X1 (w.heap.size + 3) (.int .i64 x) (.int .i64 n1)) rfl (by unfold put2; go_simp) ⟨HSG.out, ?_⟩)
            refine takeH (i := 12) (v := .int .i64 0) (d := 7) rfl rfl (by kernel_rfl) (by kernel_rfl) (by kernel_rfl) (fun _ _ _ h => h) (by rfl) (fun V hV => by obtain ⟨⟨v1, v2⟩, ⟨v3, v4⟩, v5⟩ := hV; go_simp) HSG.out ?_
            simp only [Act.put, List.setIfInBounds_toArray, List.set_cons_zero, List.set_cons_succ]
            refine wpAnyH_done (by kernel_rfl) ?_ _
            clear HSF HSG y0 y1 y2 y3
            generalize put2 X1 (w.heap.size + 3) (.int .i64 x) (.int .i64 n1) = X2 at *
            go_wp2_with fail
            obtain ⟨r0, r1, _⟩ := RX.out.all2
            obtain ⟨r3, r4, _⟩ := RY.out.all2
            exact bodyPost_ret (v := .tuple #[.agg #[.int .i64 x, .int .i64 n1], .slice (some ⟨hh, 0, none⟩) 1 1, .agg #[.int .i64 x, .int .i64 n1], .int .i64 0]) (by simp [results, Try.results21, go_sem, r0, r1, r3, r4]) rfl HX.out
          · clear NA MA RA HSE a6 HSD t0 t1 t2 t3
            have hsx : (put2 V.drew (w.heap.size + 2) (.int .i64 x) (.int .i64 n1)).heap.size = V.heap.size := by unfold put2; simp
            have NA : Hid (BX 26 (put2 V.drew (w.heap.size + 2) (.int .i64 x) (.int .i64 n1)) W0.heap.size #[.int .i64 x, .int .i64 n1]) := NX.out.drew.off2 (by omega)
            have MA : Hid (BX 48 (put2 V.drew (w.heap.size + 2) (.int .i64 x) (.int .i64 n1)) (w.heap.size + 1) #[.int .i64 x, .int .i64 n, .int .i64 m.1, .int .i64 m.2]) := MV.out.drew.off2 (by omega)
            have RA : Hid (BX 26 (put2 V.drew (w.heap.size + 2) (.int .i64 x) (.int .i64 n1)) w.heap.size #[.int .i64 x, .int .i64 n]) := RV.out.drew.off2 (by omega)
            have Z1 : Hid (BX 26 (put2 V.drew (w.heap.size + 2) (.int .i64 x) (.int .i64 n1)) (w.heap.size + 2) #[.int .i64 x, .int .i64 n1]) := Z5.out.drew.put2 _ _
            have Y1 : Hid (BX 44 (put2 V.drew (w.heap.size + 2) (.int .i64 x) (.int .i64 n1)) (w.heap.size + 3) #[.int .i64 0, .int .i64 0]) := Y5.out.drew.off2 (by omega)
            have B1 : Hid (Below w.heap.size w (put2 V.drew (w.heap.size + 2) (.int .i64 x) (.int .i64 n1))) := below_put2 (BH.out.trans (B5.out.mono (by omega))).drew (by omega) _ _
            generalize put2 V.drew (w.heap.size + 2) (.int .i64 x) (.int .i64 n1) = X0 at *
            have a6 : Below X0.heap.size X0 (X0.alloc (.cells #[.int .i64 m.1, .int .i64 m.2] 33)) := below_alloc _ _
            have O1 : Hid ((X0.alloc (.cells #[.int .i64 m.1, .int .i64 m.2] 33)).ownsRow W0.heap.size 33 2 (.slice (some ⟨X0.heap.size, 0, none⟩) 1 1) 1 (encM m)) := ⟨rfl, .inr ⟨X0.heap.size, 1, #[.int .i64 m.1, .int .i64 m.2], rfl, by omega, heap_alloc_new _ _, by simp, by simp [maxLen], by simp, by simp [encM]⟩⟩
            replace NA : Hid (BX 26 (X0.alloc (.cells #[.int .i64 m.1, .int .i64 m.2] 33)) W0.heap.size #[.int .i64 x, .int .i64 n1]) := NA.out.below a6 (by omega)
            replace MA : Hid (BX 48 (X0.alloc (.cells #[.int .i64 m.1, .int .i64 m.2] 33)) (w.heap.size + 1) #[.int .i64 x, .int .i64 n, .int .i64 m.1, .int .i64 m.2]) := MA.out.below a6 (by omega)
            replace RA : Hid (BX 26 (X0.alloc (.cells #[.int .i64 m.1, .int .i64 m.2] 33)) w.heap.size #[.int .i64 x, .int .i64 n]) := RA.out.below a6 (by omega)
            replace Z1 : Hid (BX 26 (X0.alloc (.cells #[.int .i64 m.1, .int .i64 m.2] 33)) (w.heap.size + 2) #[.int .i64 x, .int .i64 n1]) := Z1.out.below a6 (by omega)
            replace Y1 : Hid (BX 44 (X0.alloc (.cells #[.int .i64 m.1, .int .i64 m.2] 33)) (w.heap.size + 3) #[.int .i64 0, .int .i64 0]) := Y1.out.below a6 (by omega)
            replace B1 : Hid (Below w.heap.size w (X0.alloc (.cells #[.int .i64 m.1, .int .i64 m.2] 33))) := B1.out.trans (a6.mono (by omega))
            have HSE : Hid (((X0.alloc (.cells #[.int .i64 m.1, .int .i64 m.2] 33)).cell? ⟨W0.heap.size, 0, none⟩ = some (.int .i64 x) ∧ (X0.alloc (.cells #[.int .i64 m.1, .int .i64 m.2] 33)).cell? ⟨W0.heap.size, 1, none⟩ = some (.int .i64 n1)) ∧ ((X0.alloc (.cells #[.int .i64 m.1, .int .i64 m.2] 33)).cell? ⟨w.heap.size + 1, 2, none⟩ = some (.int .i64 m.1) ∧ (X0.alloc (.cells #[.int .i64 m.1, .int .i64 m.2] 33)).cell? ⟨w.heap.size + 1, 3, none⟩ = some (.int .i64 m.2)) ∧ (X0.alloc (.cells #[.int .i64 m.1, .int .i64 m.2] 33)).cell? ⟨w.heap.size, 0, none⟩ = some (.int .i64 x)) := ⟨⟨NA.out.all2.1, NA.out.all2.2.1⟩, ⟨MA.out.all4.2.2.1, MA.out.all4.2.2.2⟩, RA.out.all2.1⟩
            refine oneH (i := 3) rfl (by kernel_rfl) rfl (op_run (d := 48) (v' := .slice (some ⟨X0.heap.size, 0, none⟩) 1 1) (w' := X0.alloc (.cells #[.int .i64 m.1, .int .i64 m.2] 33)) rfl (by go_simp) ⟨HSE.out, ?_⟩)
            simp only [Act.put, List.setIfInBounds_toArray, List.set_cons_zero, List.set_cons_succ]
            clear HSE a6 HSB
            generalize X0.alloc (.cells #[.int .i64 m.1, .int .i64 m.2] 33) = X1 at *
            generalize X0.heap.size = hh at *
            have HSF : Hid ((X1.cell? ⟨W0.heap.size, 0, none⟩ = some (.int .i64 x) ∧ X1.cell? ⟨W0.heap.size, 1, none⟩ = some (.int .i64 n1)) ∧ (X1.cell? ⟨w.heap.size + 1, 2, none⟩ = some (.int .i64 m.1) ∧ X1.cell? ⟨w.heap.size + 1, 3, none⟩ = some (.int .i64 m.2)) ∧ X1.cell? ⟨w.heap.size, 0, none⟩ = some (.int .i64 x)) := ⟨⟨NA.out.all2.1, NA.out.all2.2.1⟩, ⟨MA.out.all4.2.2.1, MA.out.all4.2.2.2⟩, RA.out.all2.1⟩
            refine takeH (i := 10) (v := .slice (some ⟨hh, 0, none⟩) 1 1) (d := 5) rfl rfl (by kernel_rfl) (by kernel_rfl) (by kernel_rfl) (fun _ _ _ h => h) (by rfl) (fun V hV => by obtain ⟨⟨v1, v2⟩, ⟨v3, v4⟩, v5⟩ := hV; go_simp) HSF.out ?_
            simp only [Act.put, List.setIfInBounds_toArray, List.set_cons_zero, List.set_cons_succ]
            obtain ⟨y0, y1, y2, y3⟩ := Y1.out.all2
            have HSG : Hid (((put2 X1 (w.heap.size + 3) (.int .i64 x) (.int .i64 n1)).cell? ⟨W0.heap.size, 0, none⟩ = some (.int .i64 x) ∧ (put2 X1 (w.heap.size + 3) (.int .i64 x) (.int .i64 n1)).cell? ⟨W0.heap.size, 1, none⟩ = some (.int .i64 n1)) ∧ ((put2 X1 (w.heap.size + 3) (.int .i64 x) (.int .i64 n1)).cell? ⟨w.heap.size + 1, 2, none⟩ = some (.int .i64 m.1) ∧ (put2 X1 (w.heap.size + 3) (.int .i64 x) (.int .i64 n1)).cell? ⟨w.heap.size + 1, 3, none⟩ = some (.int .i64 m.2)) ∧ (put2 X1 (w.heap.size + 3) (.int .i64 x) (.int .i64 n1)).cell? ⟨w.heap.size, 0, none⟩ = some (.int .i64 x)) := ⟨⟨(NA.out.off2 (p := w.heap.size + 3) (by omega)).all2.1, (NA.out.off2 (p := w.heap.size + 3) (by omega)).all2.2.1⟩, ⟨(MA.out.off2 (p := w.heap.size + 3) (by omega)).all4.2.2.1, (MA.out.off2 (p := w.heap.size + 3) (by omega)).all4.2.2.2⟩, (RA.out.off2 (p := w.heap.size + 3) (by omega)).all2.1⟩
            have HX : Hid (P (.returned (.tuple #[.agg #[.int .i64 x, .int .i64 n1], .slice (some ⟨hh, 0, none⟩) 1 1, .agg #[.int .i64 x, .int .i64 n1], .int .i64 0])) (put2 X1 (w.heap.size + 3) (.int .i64 x) (.int .i64 n1))) := HE.out _ _ (own_lower (Y1.out.own2 O1.out (by decide)) (by omega)) (below_put2 B1.out (by omega) _ _)
            have RX : Hid (BX 26 (put2 X1 (w.heap.size + 3) (.int .i64 x) (.int .i64 n1)) (w.heap.size + 2) #[.int .i64 x, .int .i64 n1]) := Z1.out.off2 (by omega)
            have RY : Hid (BX 44 (put2 X1 (w.heap.size + 3) (.int .i64 x) (.int .i64 n1)) (w.heap.size + 3) #[.int .i64 x, .int .i64 n1]) := Y1.out.put2 _ _
            refine oneH (i := 11) rfl (by kernel_rfl) rfl (op_skip (w' := put2 X1 (w.heap.size + 3) (.int .i64 x) (.int .i64 n1)) rfl (by unfold put2; go_simp) ⟨HSG.out, ?_⟩)
            refine takeH (i := 12) (v := .int .i64 0) (d := 7) rfl rfl (by kernel_rfl) (by kernel_rfl) (by kernel_rfl) (fun _ _ _ h => h) (by rfl) (fun V hV => by obtain ⟨⟨v1, v2⟩, ⟨v3, v4⟩, v5⟩ := hV; go_simp) HSG.out ?_
            simp only [Act.put, List.setIfInBounds_toArray, List.set_cons_zero, List.set_cons_succ]
            refine wpAnyH_done (by kernel_rfl) ?_ _
            clear HSF HSG y0 y1 y2 y3
            generalize put2 X1 (w.heap.size + 3) (.int .i64 x) (.int .i64 n1) = X2 at *
            go_wp2_with fail
            obtain ⟨r0, r1, _⟩ := RX.out.all2
            obtain ⟨r3, r4, _⟩ := RY.out.all2
            exact bodyPost_ret (v := .tuple #[.agg #[.int .i64 x, .int .i64 n1], .slice (some ⟨hh, 0, none⟩) 1 1, .agg #[.int .i64 x, .int .i64 n1], .int .i64 0]) (by simp [results, Try.results21, go_sem, r0, r1, r3, r4]) rfl HX.out
        · have hW : hearW k n = k := by unfold hearW; rw [if_neg hn]
          have hL : hearL k n m = [] := by unfold hearL; rw [if_neg hn]
          have HE : Hid (∀ w', Below w.heap.size w w' → HeaP w (hearE x k x) x (hearW k n) (hearL k n m) (.returned (.tuple #[.agg #[.int .i64 x, .int .i64 k], .slice none 0 0, .agg #[.int .i64 x, .int .i64 k], .int .i64 0])) w') := fun w' hw => by rw [hE, hW, hL]; exact HeaP.yes (World.ownsRow_nil _ _ _ _) hw
          generalize HeaP w (hearE x k x) x (hearW k n) (hearL k n m) = P at *
          have dn : (n != k) = true := by simpa using hn
          clear hE hW hL hm hm2
          go_enter Try.func21, Try.ntmps21
          go_upto_region 1 with fail
          obtain ⟨Q0, M0, T0, U0, B0, s1, s2⟩ := boxes4 w #[.int .i64 x, .int .i64 k] #[.int .i64 x, .int .i64 n, .int .i64 m.1, .int .i64 m.2] #[.int .i64 0, .int .i64 0] #[.int .i64 0, .int .i64 0] 26 48 26 44 _ rfl
          generalize (((w.alloc (.cells #[.int .i64 x, .int .i64 k] 26)).alloc (.cells #[.int .i64 x, .int .i64 n, .int .i64 m.1, .int .i64 m.2] 48)).alloc (.cells #[.int .i64 0, .int .i64 0] 26)).alloc (.cells #[.int .i64 0, .int .i64 0] 44) = W0 at *
          have R1 : Hid (BX 26 W0 w.heap.size #[.int .i64 x, .int .i64 k]) := Q0
          have T1 : Hid (BX 26 W0 (w.heap.size + 2) #[.int .i64 0, .int .i64 0]) := T0
          have U1 : Hid (BX 44 W0 (w.heap.size + 3) #[.int .i64 0, .int .i64 0]) := U0
          have BH : Hid (Below w.heap.size w W0) := B0
          obtain ⟨q0, q1, _⟩ := Q0.all2
          have MX : Hid (BX 48 W0 (w.heap.size + 1) #[.int .i64 x, .int .i64 n, .int .i64 m.1, .int .i64 m.2]) := M0
          obtain ⟨m0, m1, m2, m3⟩ := M0.all4
          clear Q0 M0 T0 U0 B0
          go_wp2_with fail
          refine (C1 _).mono ?_
          rintro E w1 ⟨rfl, hw⟩
          replace hw := hw.symm
          subst hw
          go_wp2_with fail
          refine (C2 _).mono ?_
          rintro E w1 ⟨rfl, hw⟩
          replace hw := hw.symm
          subst hw
          go_upto_region 6 with fail
          have HX : Hid (P (.returned (.tuple #[.agg #[(.int .i64 x), (.int .i64 k)], .slice none 0 0, .agg #[(.int .i64 x), (.int .i64 k)], .int .i64 0])) (put2 (put2 W0.drew (w.heap.size + 2) (.int .i64 x) (.int .i64 k)) (w.heap.size + 3) (.int .i64 x) (.int .i64 k))) := HE.out _ (below_put2 (below_put2 BH.out.drew (by omega) _ _) (by omega) _ _)
          have RX : Hid (BX 26 (put2 (put2 W0.drew (w.heap.size + 2) (.int .i64 x) (.int .i64 k)) (w.heap.size + 3) (.int .i64 x) (.int .i64 k)) (w.heap.size + 2) #[(.int .i64 x), (.int .i64 k)]) := (T1.out.drew.put2 (.int .i64 x) (.int .i64 k)).off2 (by omega)
          have RY : Hid (BX 44 (put2 (put2 W0.drew (w.heap.size + 2) (.int .i64 x) (.int .i64 k)) (w.heap.size + 3) (.int .i64 x) (.int .i64 k)) (w.heap.size + 3) #[(.int .i64 x), (.int .i64 k)]) := BX.put2 (U1.out.drew.off2 (by omega)) (.int .i64 x) (.int .i64 k)
          obtain ⟨t0, t1, t2, t3⟩ := T1.out.all2
          obtain ⟨y0, y1, y2, y3⟩ := U1.out.all2
          rw [show w.heap.size + 1 + 1 + 1 = w.heap.size + 3 from rfl, show w.heap.size + 1 + 1 = w.heap.size + 2 from rfl]
          go_region
          go_wp2_with fail
          generalize hX : ((((W0.setCell ⟨w.heap.size + 2, 0, none⟩ (.int .i64 x)).setCell ⟨w.heap.size + 2, 1, none⟩ (.int .i64 k)).setCell ⟨w.heap.size + 3, 0, none⟩ (.int .i64 x)).setCell ⟨w.heap.size + 3, 1, none⟩ (.int .i64 k)).drew = X
          rw [show put2 (put2 W0.drew (w.heap.size + 2) (.int .i64 x) (.int .i64 k)) (w.heap.size + 3) (.int .i64 x) (.int .i64 k) = X from hX] at HX RX RY
          clear hX t0 t1 t2 t3 y0 y1 y2 y3
          obtain ⟨r0, r1, _⟩ := RX.out.all2
          obtain ⟨r3, r4, _⟩ := RY.out.all2
          exact bodyPost_ret (v := .tuple #[.agg #[(.int .i64 x), (.int .i64 k)], .slice none 0 0, .agg #[(.int .i64 x), (.int .i64 k)], .int .i64 0]) (by simp [results, Try.results21, go_sem, r0, r1, r3, r4]) rfl HX.out
      · have hE : hearE e k x = 11 := by unfold hearE; rw [hm, hm2]; simp [hx]
        have dx : (x != e) = true := by simpa using hx
        have HE : Hid (∀ w', Below w.heap.size w w' → HeaP w (hearE e k x) e (hearW k n) (hearL k n m) (.returned (.tuple #[.agg #[.int .i64 0, .int .i64 0], .slice none 0 0, .agg #[.int .i64 0, .int .i64 0], .int .i64 11])) w') := fun w' hw => by rw [hE]; exact HeaP.no (by decide) hw
        generalize HeaP w (hearE e k x) e (hearW k n) (hearL k n m) = P at *
        clear hE hm hm2
        go_enter Try.func21, Try.ntmps21
        go_upto_region 1 with fail
        obtain ⟨Q0, M0, T0, U0, B0, s1, s2⟩ := boxes4 w #[.int .i64 e, .int .i64 k] #[.int .i64 x, .int .i64 n, .int .i64 m.1, .int .i64 m.2] #[.int .i64 0, .int .i64 0] #[.int .i64 0, .int .i64 0] 26 48 26 44 _ rfl
        generalize (((w.alloc (.cells #[.int .i64 e, .int .i64 k] 26)).alloc (.cells #[.int .i64 x, .int .i64 n, .int .i64 m.1, .int .i64 m.2] 48)).alloc (.cells #[.int .i64 0, .int .i64 0] 26)).alloc (.cells #[.int .i64 0, .int .i64 0] 44) = W0 at *
        have R1 : Hid (BX 26 W0 w.heap.size #[.int .i64 e, .int .i64 k]) := Q0
        have T1 : Hid (BX 26 W0 (w.heap.size + 2) #[.int .i64 0, .int .i64 0]) := T0
        have U1 : Hid (BX 44 W0 (w.heap.size + 3) #[.int .i64 0, .int .i64 0]) := U0
        have BH : Hid (Below w.heap.size w W0) := B0
        obtain ⟨q0, q1, _⟩ := Q0.all2
        have MX : Hid (BX 48 W0 (w.heap.size + 1) #[.int .i64 x, .int .i64 n, .int .i64 m.1, .int .i64 m.2]) := M0
        obtain ⟨m0, m1, m2, m3⟩ := M0.all4
        clear Q0 M0 T0 U0 B0
        go_wp2_with fail
        refine (C1 _).mono ?_
        rintro E w1 ⟨rfl, hw⟩
        replace hw := hw.symm
        subst hw
        go_wp2_with fail
        refine (C2 _).mono ?_
        rintro E w1 ⟨rfl, hw⟩
        replace hw := hw.symm
        subst hw
        have HX : Hid (P (.returned (.tuple #[.agg #[(.int .i64 0), (.int .i64 0)], .slice none 0 0, .agg #[(.int .i64 0), (.int .i64 0)], .int .i64 11])) (put2 (put2 W0 (w.heap.size + 2) (.int .i64 0) (.int .i64 0)) (w.heap.size + 3) (.int .i64 0) (.int .i64 0))) := HE.out _ (below_put2 (below_put2 BH.out (by omega) _ _) (by omega) _ _)
        have RX : Hid (BX 26 (put2 (put2 W0 (w.heap.size + 2) (.int .i64 0) (.int .i64 0)) (w.heap.size + 3) (.int .i64 0) (.int .i64 0)) (w.heap.size + 2) #[(.int .i64 0), (.int .i64 0)]) := (T1.out.put2 (.int .i64 0) (.int .i64 0)).off2 (by omega)
        have RY : Hid (BX 44 (put2 (put2 W0 (w.heap.size + 2) (.int .i64 0) (.int .i64 0)) (w.heap.size + 3) (.int .i64 0) (.int .i64 0)) (w.heap.size + 3) #[(.int .i64 0), (.int .i64 0)]) := BX.put2 (U1.out.off2 (by omega)) (.int .i64 0) (.int .i64 0)
        obtain ⟨t0, t1, t2, t3⟩ := T1.out.all2
        obtain ⟨y0, y1, y2, y3⟩ := U1.out.all2
        go_wp2_with fail
        obtain ⟨r0, r1, _⟩ := RX.out.all2
        obtain ⟨r3, r4, _⟩ := RY.out.all2
        unfold put2 at r0 r1 r3 r4
        exact bodyPost_ret (v := .tuple #[.agg #[(.int .i64 0), (.int .i64 0)], .slice none 0 0, .agg #[(.int .i64 0), (.int .i64 0)], .int .i64 11]) (by simp [results, Try.results21, go_sem, r0, r1, r3, r4]) rfl HX.out
end Go.Proofs.Ytjmjpmnjibdhhaa
