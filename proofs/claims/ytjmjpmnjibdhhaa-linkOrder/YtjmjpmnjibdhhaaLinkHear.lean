/-
  Contract of link.Hear.
-/
import Derived.Test.YtjmjpmnjibdhhaaLinkSend
import Derived.BigRegion
namespace Go.Proofs.Ytjmjpmnjibdhhaa
set_option maxRecDepth 100000
open Go.ChangeShapes Go.WideShapes Go.ChangeAt Go.RowKit

/-- A receiver, mail, an ack and an error are answered; the mail lies in new memory. -/
def HeaP (w : World) (f e k : Int) (l : List Ml) (E : Ending) (w' : World) : Prop :=
  ∃ v, E = .returned (.tuple #[.agg #[.int .i64 (okN f e), .int .i64 (okN f k)], v, .agg #[.int .i64 (okN f e), .int .i64 (okN f k)], .int .i64 f]) ∧ w'.ownsRow w.heap.size 33 2 v (okL f l).length ((okL f l).flatMap encM) ∧ Below w.heap.size w w'
theorem HeaP.no {w w' : World} {f e k : Int} {l : List Ml} (hf : f ≠ 0) (hb : Below w.heap.size w w') : HeaP w f e k l (.returned (.tuple #[.agg #[.int .i64 0, .int .i64 0], .slice none 0 0, .agg #[.int .i64 0, .int .i64 0], .int .i64 f])) w' :=
  ⟨.slice none 0 0, by rw [okN_no hf, okN_no hf], by rw [okL_no hf]; exact World.ownsRow_nil _ _ _ _, hb⟩
theorem HeaP.yes {w w' : World} {e k : Int} {l : List Ml} {v : Value} (h1 : w'.ownsRow w.heap.size 33 2 v l.length (l.flatMap encM)) (hb : Below w.heap.size w w') : HeaP w 0 e k l (.returned (.tuple #[.agg #[.int .i64 e, .int .i64 k], v, .agg #[.int .i64 e, .int .i64 k], .int .i64 0])) w' :=
  ⟨_, rfl, h1, hb⟩

set_option maxHeartbeats 2000000 in
set_option maxRecDepth 100000 in
theorem hear_any (e k x n : Int) (m : Ml) (w : World) :
    Calls Try.prog 20 #[.agg #[.int .i64 e, .int .i64 k], .agg #[.int .i64 x, .int .i64 n, .int .i64 m.1, .int .i64 m.2]] w (HeaP w (hearE e k x) e (hearW k n) (hearL k n m)) := by
  cases hm : wi e
  · have hE : hearE e k x = 9 := by unfold hearE; rw [hm]; rfl
    have C1 := fun X => within_is hm X
    have HE : Hid (∀ w', Below w.heap.size w w' → HeaP w (hearE e k x) e (hearW k n) (hearL k n m) (.returned (.tuple #[.agg #[.int .i64 0, .int .i64 0], .slice none 0 0, .agg #[.int .i64 0, .int .i64 0], .int .i64 9])) w') := fun w' hw => by rw [hE]; exact HeaP.no (by decide) hw
    generalize HeaP w (hearE e k x) e (hearW k n) (hearL k n m) = P at *
    clear hE hm
    go_enter Try.func20, Try.ntmps20
    go_upto_region 1 with fail
    obtain ⟨Q0, M0, T0, U0, B0, s1, s2⟩ := boxes4 w #[.int .i64 e, .int .i64 k] #[.int .i64 x, .int .i64 n, .int .i64 m.1, .int .i64 m.2] #[.int .i64 0, .int .i64 0] #[.int .i64 0, .int .i64 0] 26 48 26 44 _ rfl
    generalize (((w.alloc (.cells #[.int .i64 e, .int .i64 k] 26)).alloc (.cells #[.int .i64 x, .int .i64 n, .int .i64 m.1, .int .i64 m.2] 48)).alloc (.cells #[.int .i64 0, .int .i64 0] 26)).alloc (.cells #[.int .i64 0, .int .i64 0] 44) = W0 at *
    have R1 : Hid (BX 26 W0 w.heap.size #[.int .i64 e, .int .i64 k]) := Q0
    have T1 : Hid (BX 26 W0 (w.heap.size + 2) #[.int .i64 0, .int .i64 0]) := T0
    have U1 : Hid (BX 44 W0 (w.heap.size + 3) #[.int .i64 0, .int .i64 0]) := U0
    have BH : Hid (Below w.heap.size w W0) := B0
    obtain ⟨q0, q1, _⟩ := Q0.all2
    obtain ⟨m0, m1, m2, m3⟩ := M0.all4
    clear Q0 M0 T0 U0 B0
    go_wp2_with fail
    refine (C1 _).mono ?_
    rintro E w1 ⟨rfl, hw⟩
    replace hw := hw.symm
    subst hw
    have HX : Hid (P (.returned (.tuple #[.agg #[(.int .i64 0), (.int .i64 0)], .slice none 0 0, .agg #[(.int .i64 0), (.int .i64 0)], .int .i64 9])) (put2 (put2 W0 (w.heap.size + 2) (.int .i64 0) (.int .i64 0)) (w.heap.size + 3) (.int .i64 0) (.int .i64 0))) := HE.out _ (below_put2 (below_put2 BH.out (by omega) _ _) (by omega) _ _)
    have RX : Hid (BX 26 (put2 (put2 W0 (w.heap.size + 2) (.int .i64 0) (.int .i64 0)) (w.heap.size + 3) (.int .i64 0) (.int .i64 0)) (w.heap.size + 2) #[(.int .i64 0), (.int .i64 0)]) := (T1.out.put2 (.int .i64 0) (.int .i64 0)).off2 (by omega)
    have RY : Hid (BX 44 (put2 (put2 W0 (w.heap.size + 2) (.int .i64 0) (.int .i64 0)) (w.heap.size + 3) (.int .i64 0) (.int .i64 0)) (w.heap.size + 3) #[(.int .i64 0), (.int .i64 0)]) := BX.put2 (U1.out.off2 (by omega)) (.int .i64 0) (.int .i64 0)
    obtain ⟨t0, t1, t2, t3⟩ := T1.out.all2
    obtain ⟨y0, y1, y2, y3⟩ := U1.out.all2
    go_wp2_with fail
    obtain ⟨r0, r1, _⟩ := RX.out.all2
    obtain ⟨r3, r4, _⟩ := RY.out.all2
    unfold put2 at r0 r1 r3 r4
    exact bodyPost_ret (v := .tuple #[.agg #[(.int .i64 0), (.int .i64 0)], .slice none 0 0, .agg #[(.int .i64 0), (.int .i64 0)], .int .i64 9]) (by simp [results, Try.results20, go_sem, r0, r1, r3, r4]) rfl HX.out
  · have C1 := fun X => within_is hm X
    cases hm2 : wi k
    · have hE : hearE e k x = 9 := by unfold hearE; rw [hm, hm2]; rfl
      have C2 := fun X => within_is hm2 X
      have HE : Hid (∀ w', Below w.heap.size w w' → HeaP w (hearE e k x) e (hearW k n) (hearL k n m) (.returned (.tuple #[.agg #[.int .i64 0, .int .i64 0], .slice none 0 0, .agg #[.int .i64 0, .int .i64 0], .int .i64 9])) w') := fun w' hw => by rw [hE]; exact HeaP.no (by decide) hw
      generalize HeaP w (hearE e k x) e (hearW k n) (hearL k n m) = P at *
      clear hE hm hm2
      go_enter Try.func20, Try.ntmps20
      go_upto_region 1 with fail
      obtain ⟨Q0, M0, T0, U0, B0, s1, s2⟩ := boxes4 w #[.int .i64 e, .int .i64 k] #[.int .i64 x, .int .i64 n, .int .i64 m.1, .int .i64 m.2] #[.int .i64 0, .int .i64 0] #[.int .i64 0, .int .i64 0] 26 48 26 44 _ rfl
      generalize (((w.alloc (.cells #[.int .i64 e, .int .i64 k] 26)).alloc (.cells #[.int .i64 x, .int .i64 n, .int .i64 m.1, .int .i64 m.2] 48)).alloc (.cells #[.int .i64 0, .int .i64 0] 26)).alloc (.cells #[.int .i64 0, .int .i64 0] 44) = W0 at *
      have R1 : Hid (BX 26 W0 w.heap.size #[.int .i64 e, .int .i64 k]) := Q0
      have T1 : Hid (BX 26 W0 (w.heap.size + 2) #[.int .i64 0, .int .i64 0]) := T0
      have U1 : Hid (BX 44 W0 (w.heap.size + 3) #[.int .i64 0, .int .i64 0]) := U0
      have BH : Hid (Below w.heap.size w W0) := B0
      obtain ⟨q0, q1, _⟩ := Q0.all2
      obtain ⟨m0, m1, m2, m3⟩ := M0.all4
      clear Q0 M0 T0 U0 B0
      go_wp2_with fail
      refine (C1 _).mono ?_
      rintro E w1 ⟨rfl, hw⟩
      replace hw := hw.symm
      subst hw
      go_wp2_with fail
      refine (C2 _).mono ?_
      rintro E w1 ⟨rfl, hw⟩
      replace hw := hw.symm
      subst hw
      have HX : Hid (P (.returned (.tuple #[.agg #[(.int .i64 0), (.int .i64 0)], .slice none 0 0, .agg #[(.int .i64 0), (.int .i64 0)], .int .i64 9])) (put2 (put2 W0 (w.heap.size + 2) (.int .i64 0) (.int .i64 0)) (w.heap.size + 3) (.int .i64 0) (.int .i64 0))) := HE.out _ (below_put2 (below_put2 BH.out (by omega) _ _) (by omega) _ _)
      have RX : Hid (BX 26 (put2 (put2 W0 (w.heap.size + 2) (.int .i64 0) (.int .i64 0)) (w.heap.size + 3) (.int .i64 0) (.int .i64 0)) (w.heap.size + 2) #[(.int .i64 0), (.int .i64 0)]) := (T1.out.put2 (.int .i64 0) (.int .i64 0)).off2 (by omega)
      have RY : Hid (BX 44 (put2 (put2 W0 (w.heap.size + 2) (.int .i64 0) (.int .i64 0)) (w.heap.size + 3) (.int .i64 0) (.int .i64 0)) (w.heap.size + 3) #[(.int .i64 0), (.int .i64 0)]) := BX.put2 (U1.out.off2 (by omega)) (.int .i64 0) (.int .i64 0)
      obtain ⟨t0, t1, t2, t3⟩ := T1.out.all2
      obtain ⟨y0, y1, y2, y3⟩ := U1.out.all2
      go_wp2_with fail
      obtain ⟨r0, r1, _⟩ := RX.out.all2
      obtain ⟨r3, r4, _⟩ := RY.out.all2
      unfold put2 at r0 r1 r3 r4
      exact bodyPost_ret (v := .tuple #[.agg #[(.int .i64 0), (.int .i64 0)], .slice none 0 0, .agg #[(.int .i64 0), (.int .i64 0)], .int .i64 9]) (by simp [results, Try.results20, go_sem, r0, r1, r3, r4]) rfl HX.out
    · have C2 := fun X => within_is hm2 X
      obtain ⟨k0, k1⟩ := wi_iff.1 hm2
      by_cases hx : x = e
      · subst hx
        have hE : hearE x k x = 0 := by unfold hearE; rw [hm, hm2]; simp
        have dx : (x != x) = false := by simp
        by_cases hn : n = k
        · subst hn
          have hW : hearW n n = n + 1 := by unfold hearW; rw [if_pos rfl]
          have hL : hearL n n m = [m] := by unfold hearL; rw [if_pos rfl]
          have HE : Hid (∀ v w', w'.ownsRow w.heap.size 33 2 v 1 (encM m) → Below w.heap.size w w' → HeaP w (hearE x n x) x (hearW n n) (hearL n n m) (.returned (.tuple #[.agg #[.int .i64 x, .int .i64 (n + 1)], v, .agg #[.int .i64 x, .int .i64 (n + 1)], .int .i64 0])) w') := fun v w' h1 hw => by rw [hE, hW, hL]; exact HeaP.yes (by simpa using h1) hw
          generalize HeaP w (hearE x n x) x (hearW n n) (hearL n n m) = P at *
          have dn : (n == n) = true := by simp
          clear hE hW hL hm hm2
          go_enter Try.func20, Try.ntmps20
          go_upto_region 1 with fail
          obtain ⟨Q0, M0, T0, U0, B0, s1, s2⟩ := boxes4 w #[.int .i64 x, .int .i64 n] #[.int .i64 x, .int .i64 n, .int .i64 m.1, .int .i64 m.2] #[.int .i64 0, .int .i64 0] #[.int .i64 0, .int .i64 0] 26 48 26 44 _ rfl
          generalize (((w.alloc (.cells #[.int .i64 x, .int .i64 n] 26)).alloc (.cells #[.int .i64 x, .int .i64 n, .int .i64 m.1, .int .i64 m.2] 48)).alloc (.cells #[.int .i64 0, .int .i64 0] 26)).alloc (.cells #[.int .i64 0, .int .i64 0] 44) = W0 at *
          have R1 : Hid (BX 26 W0 w.heap.size #[.int .i64 x, .int .i64 n]) := Q0
          have T1 : Hid (BX 26 W0 (w.heap.size + 2) #[.int .i64 0, .int .i64 0]) := T0
          have U1 : Hid (BX 44 W0 (w.heap.size + 3) #[.int .i64 0, .int .i64 0]) := U0
          have BH : Hid (Below w.heap.size w W0) := B0
          obtain ⟨q0, q1, _⟩ := Q0.all2
          obtain ⟨m0, m1, m2, m3⟩ := M0.all4
          clear Q0 M0 T0 U0 B0
          go_wp2_with fail
          refine (C1 _).mono ?_
          rintro E w1 ⟨rfl, hw⟩
          replace hw := hw.symm
          subst hw
          go_wp2_with fail
          refine (C2 _).mono ?_
          rintro E w1 ⟨rfl, hw⟩
          replace hw := hw.symm
          subst hw
          go_wp2_with (at_builtin; refine wpList_append_newK kM rfl _ _ rfl W0.heap.size _ ([] : List Ml) rfl (World.ownsRow_nil _ _ _ _) W0.heap.size m rfl #[.int .i64 m.1, .int .i64 m.2] rfl (0, 0) (heap_alloc_new _ _) ?d1 ?d2 ?d3 ?_)
          case d1 => simp [kM]
          case d2 => unfold maxLen; simp
          case d3 => first | omega | (simp; omega) | simp
          intro g gc w4 ho4 hb4 hg4
          have B4 : Hid (Below W0.heap.size W0 w4) := (below_alloc _ _).trans hb4
          have O4 : Hid (w4.ownsRow W0.heap.size 33 2 (.slice (some ⟨g, 0, none⟩) 1 gc) 1 (encM m)) := by
            show World.ownsRow _ _ _ _ _ _ _
            simpa [kM] using ho4
          have R4 : Hid (BX 26 w4 w.heap.size #[.int .i64 x, .int .i64 n]) := R1.out.below B4.out (by omega)
          obtain ⟨q0, q1, q2, q3⟩ := R4.out.all2
          have wn : IntKind.i64.wrap (n + 1) = n + 1 := wrap_id64 (by omega) (by omega)
          have A5 : Hid (BX 26 (w4.setCell ⟨w.heap.size, 1, none⟩ (.int .i64 (n + 1))) w.heap.size #[.int .i64 x, .int .i64 (n + 1)]) := R4.out.set 1 _
          have O5 : Hid ((w4.setCell ⟨w.heap.size, 1, none⟩ (.int .i64 (n + 1))).ownsRow W0.heap.size 33 2 (.slice (some ⟨g, 0, none⟩) 1 gc) 1 (encM m)) := R4.out.own O4.out (by decide)
          have Z5 : Hid (BX 26 (w4.setCell ⟨w.heap.size, 1, none⟩ (.int .i64 (n + 1))) (w.heap.size + 2) #[.int .i64 0, .int .i64 0]) := (T1.out.below B4.out (by omega)).other (by omega)
          have Y5 : Hid (BX 44 (w4.setCell ⟨w.heap.size, 1, none⟩ (.int .i64 (n + 1))) (w.heap.size + 3) #[.int .i64 0, .int .i64 0]) := (U1.out.below B4.out (by omega)).other (by omega)
          have B5 : Hid (Below w.heap.size w (w4.setCell ⟨w.heap.size, 1, none⟩ (.int .i64 (n + 1)))) := (BH.out.trans (B4.out.mono (by omega))).setCell (Nat.le_refl _) _
          clear ho4 hb4 hg4
          go_upto_region 9 with fail
          clear q2 q3 R4 O4 B4
          generalize w4.setCell ⟨w.heap.size, 1, none⟩ (.int .i64 (n + 1)) = V at *
          generalize n + 1 = n1 at *
          obtain ⟨q0, q1, _⟩ := A5.out.all2
          have HX : Hid (P (.returned (.tuple #[.agg #[(.int .i64 x), (.int .i64 n1)], .slice (some ⟨g, 0, none⟩) 1 gc, .agg #[(.int .i64 x), (.int .i64 n1)], .int .i64 0])) (put2 (put2 V.drew (w.heap.size + 2) (.int .i64 x) (.int .i64 n1)) (w.heap.size + 3) (.int .i64 x) (.int .i64 n1))) := HE.out _ _ (own_lower (BX.own2 (Y5.out.drew.off2 (by omega)) (Z5.out.drew.own2 O5.out.drew (by decide)) (by decide)) (by omega)) (below_put2 (below_put2 B5.out.drew (by omega) _ _) (by omega) _ _)
          have RX : Hid (BX 26 (put2 (put2 V.drew (w.heap.size + 2) (.int .i64 x) (.int .i64 n1)) (w.heap.size + 3) (.int .i64 x) (.int .i64 n1)) (w.heap.size + 2) #[(.int .i64 x), (.int .i64 n1)]) := (Z5.out.drew.put2 (.int .i64 x) (.int .i64 n1)).off2 (by omega)
          have RY : Hid (BX 44 (put2 (put2 V.drew (w.heap.size + 2) (.int .i64 x) (.int .i64 n1)) (w.heap.size + 3) (.int .i64 x) (.int .i64 n1)) (w.heap.size + 3) #[(.int .i64 x), (.int .i64 n1)]) := BX.put2 (Y5.out.drew.off2 (by omega)) (.int .i64 x) (.int .i64 n1)
          obtain ⟨t0, t1, t2, t3⟩ := Z5.out.all2
          obtain ⟨y0, y1, y2, y3⟩ := Y5.out.all2
          rw [show w.heap.size + 1 + 1 + 1 = w.heap.size + 3 from rfl, show w.heap.size + 1 + 1 = w.heap.size + 2 from rfl]
          go_region
          go_wp2_with fail
          generalize hX : ((((V.setCell ⟨w.heap.size + 2, 0, none⟩ (.int .i64 x)).setCell ⟨w.heap.size + 2, 1, none⟩ (.int .i64 n1)).setCell ⟨w.heap.size + 3, 0, none⟩ (.int .i64 x)).setCell ⟨w.heap.size + 3, 1, none⟩ (.int .i64 n1)).drew = X
          rw [show put2 (put2 V.drew (w.heap.size + 2) (.int .i64 x) (.int .i64 n1)) (w.heap.size + 3) (.int .i64 x) (.int .i64 n1) = X from hX] at HX RX RY
          clear hX t0 t1 t2 t3 y0 y1 y2 y3
          obtain ⟨r0, r1, _⟩ := RX.out.all2
          obtain ⟨r3, r4, _⟩ := RY.out.all2
          exact bodyPost_ret (v := .tuple #[.agg #[(.int .i64 x), (.int .i64 n1)], .slice (some ⟨g, 0, none⟩) 1 gc, .agg #[(.int .i64 x), (.int .i64 n1)], .int .i64 0]) (by simp [results, Try.results20, go_sem, r0, r1, r3, r4]) rfl HX.out
        · have hW : hearW k n = k := by unfold hearW; rw [if_neg hn]
          have hL : hearL k n m = [] := by unfold hearL; rw [if_neg hn]
          have HE : Hid (∀ w', Below w.heap.size w w' → HeaP w (hearE x k x) x (hearW k n) (hearL k n m) (.returned (.tuple #[.agg #[.int .i64 x, .int .i64 k], .slice none 0 0, .agg #[.int .i64 x, .int .i64 k], .int .i64 0])) w') := fun w' hw => by rw [hE, hW, hL]; exact HeaP.yes (World.ownsRow_nil _ _ _ _) hw
          generalize HeaP w (hearE x k x) x (hearW k n) (hearL k n m) = P at *
          have dn : (n == k) = false := by simpa using hn
          clear hE hW hL hm hm2
          go_enter Try.func20, Try.ntmps20
          go_upto_region 1 with fail
          obtain ⟨Q0, M0, T0, U0, B0, s1, s2⟩ := boxes4 w #[.int .i64 x, .int .i64 k] #[.int .i64 x, .int .i64 n, .int .i64 m.1, .int .i64 m.2] #[.int .i64 0, .int .i64 0] #[.int .i64 0, .int .i64 0] 26 48 26 44 _ rfl
          generalize (((w.alloc (.cells #[.int .i64 x, .int .i64 k] 26)).alloc (.cells #[.int .i64 x, .int .i64 n, .int .i64 m.1, .int .i64 m.2] 48)).alloc (.cells #[.int .i64 0, .int .i64 0] 26)).alloc (.cells #[.int .i64 0, .int .i64 0] 44) = W0 at *
          have R1 : Hid (BX 26 W0 w.heap.size #[.int .i64 x, .int .i64 k]) := Q0
          have T1 : Hid (BX 26 W0 (w.heap.size + 2) #[.int .i64 0, .int .i64 0]) := T0
          have U1 : Hid (BX 44 W0 (w.heap.size + 3) #[.int .i64 0, .int .i64 0]) := U0
          have BH : Hid (Below w.heap.size w W0) := B0
          obtain ⟨q0, q1, _⟩ := Q0.all2
          obtain ⟨m0, m1, m2, m3⟩ := M0.all4
          clear Q0 M0 T0 U0 B0
          go_wp2_with fail
          refine (C1 _).mono ?_
          rintro E w1 ⟨rfl, hw⟩
          replace hw := hw.symm
          subst hw
          go_wp2_with fail
          refine (C2 _).mono ?_
          rintro E w1 ⟨rfl, hw⟩
          replace hw := hw.symm
          subst hw
          go_upto_region 9 with fail
          have HX : Hid (P (.returned (.tuple #[.agg #[(.int .i64 x), (.int .i64 k)], .slice none 0 0, .agg #[(.int .i64 x), (.int .i64 k)], .int .i64 0])) (put2 (put2 W0.drew (w.heap.size + 2) (.int .i64 x) (.int .i64 k)) (w.heap.size + 3) (.int .i64 x) (.int .i64 k))) := HE.out _ (below_put2 (below_put2 BH.out.drew (by omega) _ _) (by omega) _ _)
          have RX : Hid (BX 26 (put2 (put2 W0.drew (w.heap.size + 2) (.int .i64 x) (.int .i64 k)) (w.heap.size + 3) (.int .i64 x) (.int .i64 k)) (w.heap.size + 2) #[(.int .i64 x), (.int .i64 k)]) := (T1.out.drew.put2 (.int .i64 x) (.int .i64 k)).off2 (by omega)
          have RY : Hid (BX 44 (put2 (put2 W0.drew (w.heap.size + 2) (.int .i64 x) (.int .i64 k)) (w.heap.size + 3) (.int .i64 x) (.int .i64 k)) (w.heap.size + 3) #[(.int .i64 x), (.int .i64 k)]) := BX.put2 (U1.out.drew.off2 (by omega)) (.int .i64 x) (.int .i64 k)
          obtain ⟨t0, t1, t2, t3⟩ := T1.out.all2
          obtain ⟨y0, y1, y2, y3⟩ := U1.out.all2
          rw [show w.heap.size + 1 + 1 + 1 = w.heap.size + 3 from rfl, show w.heap.size + 1 + 1 = w.heap.size + 2 from rfl]
          go_region
          go_wp2_with fail
          generalize hX : ((((W0.setCell ⟨w.heap.size + 2, 0, none⟩ (.int .i64 x)).setCell ⟨w.heap.size + 2, 1, none⟩ (.int .i64 k)).setCell ⟨w.heap.size + 3, 0, none⟩ (.int .i64 x)).setCell ⟨w.heap.size + 3, 1, none⟩ (.int .i64 k)).drew = X
          rw [show put2 (put2 W0.drew (w.heap.size + 2) (.int .i64 x) (.int .i64 k)) (w.heap.size + 3) (.int .i64 x) (.int .i64 k) = X from hX] at HX RX RY
          clear hX t0 t1 t2 t3 y0 y1 y2 y3
          obtain ⟨r0, r1, _⟩ := RX.out.all2
          obtain ⟨r3, r4, _⟩ := RY.out.all2
          exact bodyPost_ret (v := .tuple #[.agg #[(.int .i64 x), (.int .i64 k)], .slice none 0 0, .agg #[(.int .i64 x), (.int .i64 k)], .int .i64 0]) (by simp [results, Try.results20, go_sem, r0, r1, r3, r4]) rfl HX.out
      · have hE : hearE e k x = 11 := by unfold hearE; rw [hm, hm2]; simp [hx]
        have dx : (x != e) = true := by simpa using hx
        have HE : Hid (∀ w', Below w.heap.size w w' → HeaP w (hearE e k x) e (hearW k n) (hearL k n m) (.returned (.tuple #[.agg #[.int .i64 0, .int .i64 0], .slice none 0 0, .agg #[.int .i64 0, .int .i64 0], .int .i64 11])) w') := fun w' hw => by rw [hE]; exact HeaP.no (by decide) hw
        generalize HeaP w (hearE e k x) e (hearW k n) (hearL k n m) = P at *
        clear hE hm hm2
        go_enter Try.func20, Try.ntmps20
        go_upto_region 1 with fail
        obtain ⟨Q0, M0, T0, U0, B0, s1, s2⟩ := boxes4 w #[.int .i64 e, .int .i64 k] #[.int .i64 x, .int .i64 n, .int .i64 m.1, .int .i64 m.2] #[.int .i64 0, .int .i64 0] #[.int .i64 0, .int .i64 0] 26 48 26 44 _ rfl
        generalize (((w.alloc (.cells #[.int .i64 e, .int .i64 k] 26)).alloc (.cells #[.int .i64 x, .int .i64 n, .int .i64 m.1, .int .i64 m.2] 48)).alloc (.cells #[.int .i64 0, .int .i64 0] 26)).alloc (.cells #[.int .i64 0, .int .i64 0] 44) = W0 at *
        have R1 : Hid (BX 26 W0 w.heap.size #[.int .i64 e, .int .i64 k]) := Q0
        have T1 : Hid (BX 26 W0 (w.heap.size + 2) #[.int .i64 0, .int .i64 0]) := T0
        have U1 : Hid (BX 44 W0 (w.heap.size + 3) #[.int .i64 0, .int .i64 0]) := U0
        have BH : Hid (Below w.heap.size w W0) := B0
        obtain ⟨q0, q1, _⟩ := Q0.all2
        obtain ⟨m0, m1, m2, m3⟩ := M0.all4
        clear Q0 M0 T0 U0 B0
        go_wp2_with fail
        refine (C1 _).mono ?_
        rintro E w1 ⟨rfl, hw⟩
        replace hw := hw.symm
        subst hw
        go_wp2_with fail
        refine (C2 _).mono ?_
        rintro E w1 ⟨rfl, hw⟩
        replace hw := hw.symm
        subst hw
        have HX : Hid (P (.returned (.tuple #[.agg #[(.int .i64 0), (.int .i64 0)], .slice none 0 0, .agg #[(.int .i64 0), (.int .i64 0)], .int .i64 11])) (put2 (put2 W0 (w.heap.size + 2) (.int .i64 0) (.int .i64 0)) (w.heap.size + 3) (.int .i64 0) (.int .i64 0))) := HE.out _ (below_put2 (below_put2 BH.out (by omega) _ _) (by omega) _ _)
        have RX : Hid (BX 26 (put2 (put2 W0 (w.heap.size + 2) (.int .i64 0) (.int .i64 0)) (w.heap.size + 3) (.int .i64 0) (.int .i64 0)) (w.heap.size + 2) #[(.int .i64 0), (.int .i64 0)]) := (T1.out.put2 (.int .i64 0) (.int .i64 0)).off2 (by omega)
        have RY : Hid (BX 44 (put2 (put2 W0 (w.heap.size + 2) (.int .i64 0) (.int .i64 0)) (w.heap.size + 3) (.int .i64 0) (.int .i64 0)) (w.heap.size + 3) #[(.int .i64 0), (.int .i64 0)]) := BX.put2 (U1.out.off2 (by omega)) (.int .i64 0) (.int .i64 0)
        obtain ⟨t0, t1, t2, t3⟩ := T1.out.all2
        obtain ⟨y0, y1, y2, y3⟩ := U1.out.all2
        go_wp2_with fail
        obtain ⟨r0, r1, _⟩ := RX.out.all2
        obtain ⟨r3, r4, _⟩ := RY.out.all2
        unfold put2 at r0 r1 r3 r4
        exact bodyPost_ret (v := .tuple #[.agg #[(.int .i64 0), (.int .i64 0)], .slice none 0 0, .agg #[(.int .i64 0), (.int .i64 0)], .int .i64 11]) (by simp [results, Try.results20, go_sem, r0, r1, r3, r4]) rfl HX.out
end Go.Proofs.Ytjmjpmnjibdhhaa
