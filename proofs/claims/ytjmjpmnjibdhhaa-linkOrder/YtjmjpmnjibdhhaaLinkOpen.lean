/-
  Contract of link.Open.
-/
import Derived.Test.YtjmjpmnjibdhhaaLinkSend
namespace Go.Proofs.Ytjmjpmnjibdhhaa
set_option maxRecDepth 100000
open Go.ChangeShapes Go.WideShapes Go.ChangeAt Go.RowKit

/-- Which error Open answers. -/
def openE (e : Int) : Int := if wi e then 0 else 2
/-- Both ends, and an error. -/
def OpnP (w : World) (e : Int) (E : Ending) (w' : World) : Prop :=
  E = .returned (.tuple #[.agg #[.int .i64 (okN (openE e) e), .int .i64 0, .slice none 0 0], .agg #[.int .i64 (okN (openE e) e), .int .i64 0], .int .i64 (openE e)]) ∧ Below w.heap.size w w'

set_option maxHeartbeats 1000000 in
set_option maxRecDepth 100000 in
theorem open_any (e : Int) (w : World) : Calls Try.prog 9 #[.int .i64 e] w (OpnP w e) := by
  cases hm : wi e
  · have HE : Hid (∀ w', Below w.heap.size w w' → OpnP w e (.returned (.tuple #[.agg #[.int .i64 0, .int .i64 0, .slice none 0 0], .agg #[.int .i64 0, .int .i64 0], .int .i64 2])) w') := fun w' hw => ⟨by rw [openE, hm]; rfl, hw⟩
    have C1 := fun X => within_is hm X
    generalize OpnP w e = P at *
    clear hm
    go_enter Try.func9, Try.ntmps9
    go_upto_region 1 with fail
    obtain ⟨Q0, M0, B0, s1, s2⟩ := boxes2 w #[.int .i64 0, .int .i64 0, .slice none 0 0] #[.int .i64 0, .int .i64 0] 24 26 _ rfl
    generalize (w.alloc (.cells #[.int .i64 0, .int .i64 0, .slice none 0 0] 24)).alloc (.cells #[.int .i64 0, .int .i64 0] 26) = W0 at *
    have T1 : Hid (BX 24 W0 w.heap.size #[.int .i64 0, .int .i64 0, .slice none 0 0]) := Q0
    have U1 : Hid (BX 26 W0 (w.heap.size + 1) #[.int .i64 0, .int .i64 0]) := M0
    have BH : Hid (Below w.heap.size w W0) := B0
    clear Q0 M0 B0
    go_wp2_with fail
    refine (C1 _).mono ?_
    rintro E w1 ⟨rfl, hw⟩
    replace hw := hw.symm
    subst hw
    obtain ⟨t0, t1, t2, t3, t4, t5⟩ := T1.out.all3
    obtain ⟨y0, y1, y2, y3⟩ := U1.out.all2
    have HX : Hid (P (.returned (.tuple #[.agg #[(.int .i64 0), .int .i64 0, .slice none 0 0], .agg #[(.int .i64 0), .int .i64 0], .int .i64 2])) (put2 (put3 W0 w.heap.size (.int .i64 0) (.int .i64 0) (.slice none 0 0)) (w.heap.size + 1) (.int .i64 0) (.int .i64 0))) := HE.out _ (below_put2 (below_put3 BH.out (Nat.le_refl _) _ _ _) (by omega) _ _)
    have RX : Hid (BX 24 (put2 (put3 W0 w.heap.size (.int .i64 0) (.int .i64 0) (.slice none 0 0)) (w.heap.size + 1) (.int .i64 0) (.int .i64 0)) w.heap.size #[(.int .i64 0), .int .i64 0, .slice none 0 0]) := (T1.out.put3 _ _ _).off2 (by omega)
    have RY : Hid (BX 26 (put2 (put3 W0 w.heap.size (.int .i64 0) (.int .i64 0) (.slice none 0 0)) (w.heap.size + 1) (.int .i64 0) (.int .i64 0)) (w.heap.size + 1) #[(.int .i64 0), .int .i64 0]) := BX.put2 (U1.out.off3 (by omega)) _ _
    go_wp2_with fail
    obtain ⟨r0, r1, r2, _⟩ := RX.out.all3
    obtain ⟨r3, r4, _⟩ := RY.out.all2
    unfold put2 put3 at r0 r1 r2 r3 r4
    exact bodyPost_ret (v := .tuple #[.agg #[(.int .i64 0), .int .i64 0, .slice none 0 0], .agg #[(.int .i64 0), .int .i64 0], .int .i64 2]) (by simp [results, Try.results9, go_sem, r0, r1, r2, r3, r4]) rfl HX.out
  · have HE : Hid (∀ w', Below w.heap.size w w' → OpnP w e (.returned (.tuple #[.agg #[.int .i64 e, .int .i64 0, .slice none 0 0], .agg #[.int .i64 e, .int .i64 0], .int .i64 0])) w') := fun w' hw => ⟨by rw [openE, hm]; rfl, hw⟩
    have C1 := fun X => within_is hm X
    generalize OpnP w e = P at *
    clear hm
    go_enter Try.func9, Try.ntmps9
    go_upto_region 1 with fail
    obtain ⟨Q0, M0, B0, s1, s2⟩ := boxes2 w #[.int .i64 0, .int .i64 0, .slice none 0 0] #[.int .i64 0, .int .i64 0] 24 26 _ rfl
    generalize (w.alloc (.cells #[.int .i64 0, .int .i64 0, .slice none 0 0] 24)).alloc (.cells #[.int .i64 0, .int .i64 0] 26) = W0 at *
    have T1 : Hid (BX 24 W0 w.heap.size #[.int .i64 0, .int .i64 0, .slice none 0 0]) := Q0
    have U1 : Hid (BX 26 W0 (w.heap.size + 1) #[.int .i64 0, .int .i64 0]) := M0
    have BH : Hid (Below w.heap.size w W0) := B0
    clear Q0 M0 B0
    go_wp2_with fail
    refine (C1 _).mono ?_
    rintro E w1 ⟨rfl, hw⟩
    replace hw := hw.symm
    subst hw
    obtain ⟨t0, t1, t2, t3, t4, t5⟩ := T1.out.all3
    obtain ⟨y0, y1, y2, y3⟩ := U1.out.all2
    have HX : Hid (P (.returned (.tuple #[.agg #[(.int .i64 e), .int .i64 0, .slice none 0 0], .agg #[(.int .i64 e), .int .i64 0], .int .i64 0])) (put2 (put3 W0 w.heap.size (.int .i64 e) (.int .i64 0) (.slice none 0 0)) (w.heap.size + 1) (.int .i64 e) (.int .i64 0))) := HE.out _ (below_put2 (below_put3 BH.out (Nat.le_refl _) _ _ _) (by omega) _ _)
    have RX : Hid (BX 24 (put2 (put3 W0 w.heap.size (.int .i64 e) (.int .i64 0) (.slice none 0 0)) (w.heap.size + 1) (.int .i64 e) (.int .i64 0)) w.heap.size #[(.int .i64 e), .int .i64 0, .slice none 0 0]) := (T1.out.put3 _ _ _).off2 (by omega)
    have RY : Hid (BX 26 (put2 (put3 W0 w.heap.size (.int .i64 e) (.int .i64 0) (.slice none 0 0)) (w.heap.size + 1) (.int .i64 e) (.int .i64 0)) (w.heap.size + 1) #[(.int .i64 e), .int .i64 0]) := BX.put2 (U1.out.off3 (by omega)) _ _
    go_wp2_with fail
    obtain ⟨r0, r1, r2, _⟩ := RX.out.all3
    obtain ⟨r3, r4, _⟩ := RY.out.all2
    unfold put2 put3 at r0 r1 r2 r3 r4
    exact bodyPost_ret (v := .tuple #[.agg #[(.int .i64 e), .int .i64 0, .slice none 0 0], .agg #[(.int .i64 e), .int .i64 0], .int .i64 0]) (by simp [results, Try.results9, go_sem, r0, r1, r2, r3, r4]) rfl HX.out
end Go.Proofs.Ytjmjpmnjibdhhaa
