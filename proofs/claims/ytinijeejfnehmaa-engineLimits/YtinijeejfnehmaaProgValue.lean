/-
  Contracts of prog's labelled, lowered, and of begin and hear of Dist and Weak.
-/
import Derived.Test.YtinijeejfnehmaaProgLeaf
import Derived.Deep.CutRange
namespace Go.Proofs.Ytinijeejfnehmaa
set_option maxRecDepth 100000
open Go.ChangeShapes Go.WideShapes Go.ChangeAt Go.RowKit

/-- A value, and whether it is said; nothing that was there is changed. -/
def ValP (w : World) (r : Ml × Bool) (e : Ending) (w' : World) : Prop :=
  e = .returned (.tuple #[.agg #[.int .i64 r.1.1, .int .i64 r.1.2], .bool r.2]) ∧ Below w.heap.size w w'

set_option maxHeartbeats 1000000 in
theorem labelled_any (x : Ml) (b : Bool) (w : World) :
    Calls Try.prog 112 #[.agg #[.int .i64 x.1, .int .i64 x.2], .bool b] w (ValP w (labF x b)) := by
  cases b
  · have HE : Hid (∀ w', Below w.heap.size w w' → ValP w (labF x false) (.returned (.tuple #[.agg #[.int .i64 x.1, .int .i64 x.2], .bool false])) w') := fun w' hw => ⟨rfl, hw⟩
    generalize ValP w (labF x false) = P at *
    go_enter Try.func112, Try.ntmps112
    go_upto_region 1 with fail
    obtain ⟨Q0, T0, B0, s1, s2⟩ := boxes2 w #[.int .i64 x.1, .int .i64 x.2] #[.int .i64 0, .int .i64 0] 53 53 _ rfl
    generalize (w.alloc (.cells #[.int .i64 x.1, .int .i64 x.2] 53)).alloc (.cells #[.int .i64 0, .int .i64 0] 53) = W0 at *
    have T1 : Hid (BX 53 W0 (w.heap.size + 1) #[.int .i64 0, .int .i64 0]) := T0
    have BH : Hid (Below w.heap.size w W0) := B0
    obtain ⟨q0, q1, _⟩ := Q0.all2
    obtain ⟨t0, t1, t2, t3⟩ := T0.all2
    clear Q0 T0 B0
    have HX : Hid (P (.returned (.tuple #[.agg #[.int .i64 x.1, .int .i64 x.2], .bool false])) (put2 W0 (w.heap.size + 1) (.int .i64 x.1) (.int .i64 x.2))) := HE.out _ (below_put2 BH.out (by omega) _ _)
    have RX : Hid (BX 53 (put2 W0 (w.heap.size + 1) (.int .i64 x.1) (.int .i64 x.2)) (w.heap.size + 1) #[.int .i64 x.1, .int .i64 x.2]) := T1.out.put2 _ _
    go_wp2_with fail
    obtain ⟨r0, r1, _⟩ := RX.out.all2
    unfold put2 at r0 r1
    exact bodyPost_ret (v := .tuple #[.agg #[.int .i64 x.1, .int .i64 x.2], .bool false]) (by simp [results, Try.results112, go_sem, r0, r1]) rfl HX.out
  · have HE : Hid (∀ w', Below w.heap.size w w' → ValP w (labF x true) (.returned (.tuple #[.agg #[.int .i64 x.1, .int .i64 x.1], .bool true])) w') := fun w' hw => ⟨rfl, hw⟩
    generalize ValP w (labF x true) = P at *
    go_enter Try.func112, Try.ntmps112
    go_upto_region 1 with fail
    obtain ⟨Q0, T0, B0, s1, s2⟩ := boxes2 w #[.int .i64 x.1, .int .i64 x.2] #[.int .i64 0, .int .i64 0] 53 53 _ rfl
    generalize (w.alloc (.cells #[.int .i64 x.1, .int .i64 x.2] 53)).alloc (.cells #[.int .i64 0, .int .i64 0] 53) = W0 at *
    have Q1 : Hid (BX 53 W0 w.heap.size #[.int .i64 x.1, .int .i64 x.2]) := Q0
    have T1 : Hid (BX 53 W0 (w.heap.size + 1) #[.int .i64 0, .int .i64 0]) := T0
    have BH : Hid (Below w.heap.size w W0) := B0
    obtain ⟨q0, q1, q2, q3⟩ := Q0.all2
    clear Q0 T0 B0
    go_upto_region 3 with fail
    have Q2 : BX 53 (W0.setCell ⟨w.heap.size, 1, none⟩ (.int .i64 x.1)) w.heap.size #[.int .i64 x.1, .int .i64 x.1] := Q1.out.set 1 _
    have T2 : Hid (BX 53 (W0.setCell ⟨w.heap.size, 1, none⟩ (.int .i64 x.1)) (w.heap.size + 1) #[.int .i64 0, .int .i64 0]) := T1.out.other (by omega)
    have B2 : Hid (Below w.heap.size w (W0.setCell ⟨w.heap.size, 1, none⟩ (.int .i64 x.1))) := BH.out.setCell (Nat.le_refl _) _
    clear q0 q1 q2 q3 Q1 T1 BH
    generalize W0.setCell ⟨w.heap.size, 1, none⟩ (.int .i64 x.1) = V at *
    obtain ⟨q0, q1, _⟩ := Q2.all2
    obtain ⟨t0, t1, t2, t3⟩ := T2.out.all2
    clear Q2
    have HX : Hid (P (.returned (.tuple #[.agg #[.int .i64 x.1, .int .i64 x.1], .bool true])) (put2 V (w.heap.size + 1) (.int .i64 x.1) (.int .i64 x.1))) := HE.out _ (below_put2 B2.out (by omega) _ _)
    have RX : Hid (BX 53 (put2 V (w.heap.size + 1) (.int .i64 x.1) (.int .i64 x.1)) (w.heap.size + 1) #[.int .i64 x.1, .int .i64 x.1]) := T2.out.put2 _ _
    go_wp2_with fail
    obtain ⟨r0, r1, _⟩ := RX.out.all2
    unfold put2 at r0 r1
    exact bodyPost_ret (v := .tuple #[.agg #[.int .i64 x.1, .int .i64 x.1], .bool true]) (by simp [results, Try.results112, go_sem, r0, r1]) rfl HX.out

set_option maxHeartbeats 1000000 in
theorem dBegin_any (v s : Int) (x : Ml) (w : World) :
    Calls Try.prog 98 #[.agg #[], .int .i64 v, .int .i64 s, .agg #[.int .i64 x.1, .int .i64 x.2]] w (ValP w (beginF (false, false) v s x)) := by
  obtain ⟨c, d, hcd⟩ : ∃ (c : Int) (d : Bool), (v == s) = d ∧ c = (if d then 0 else -1) ∧ beginF (false, false) v s x = ((c, -1), d) := by
    by_cases h : v = s
    · exact ⟨0, true, by simpa using h, rfl, by simp [beginF, h]⟩
    · exact ⟨-1, false, by simpa using h, rfl, by simp [beginF, h]⟩
  obtain ⟨h1, h2, h3⟩ := hcd
  rw [h3]
  have HE : Hid (∀ w', Below w.heap.size w w' → ValP w ((c, -1), d) (.returned (.tuple #[.agg #[.int .i64 c, .int .i64 (-1)], .bool d])) w') := fun w' hw => ⟨rfl, hw⟩
  generalize ValP w ((c, -1), d) = P at *
  clear h3
  cases d
  all_goals simp only [if_true, Bool.false_eq_true, if_false] at h2
  all_goals subst h2
  all_goals go_enter Try.func98, Try.ntmps98
  all_goals go_upto_region 1 with fail
  all_goals obtain ⟨_, Q0, T0, B0, s1, s2⟩ := boxes3 w #[] #[.int .i64 x.1, .int .i64 x.2] #[.int .i64 0, .int .i64 0] 84 53 53 _ rfl
  all_goals generalize ((w.alloc (.cells #[] 84)).alloc (.cells #[.int .i64 x.1, .int .i64 x.2] 53)).alloc (.cells #[.int .i64 0, .int .i64 0] 53) = W0 at *
  all_goals have T1 : Hid (BX 53 W0 (w.heap.size + 2) #[.int .i64 0, .int .i64 0]) := T0
  all_goals have BH : Hid (Below w.heap.size w W0) := B0
  all_goals obtain ⟨t0, t1, t2, t3⟩ := T0.all2
  all_goals clear Q0 T0 B0
  · have HX : Hid (P (.returned (.tuple #[.agg #[.int .i64 (-1), .int .i64 (-1)], .bool false])) (put2 W0 (w.heap.size + 2) (.int .i64 (-1)) (.int .i64 (-1)))) := HE.out _ (below_put2 BH.out (by omega) _ _)
    have RX : Hid (BX 53 (put2 W0 (w.heap.size + 2) (.int .i64 (-1)) (.int .i64 (-1))) (w.heap.size + 2) #[.int .i64 (-1), .int .i64 (-1)]) := T1.out.put2 _ _
    go_wp2_with fail
    obtain ⟨r0, r1, _⟩ := RX.out.all2
    unfold put2 at r0 r1
    exact bodyPost_ret (v := .tuple #[.agg #[.int .i64 (-1), .int .i64 (-1)], .bool false]) (by simp [results, Try.results98, go_sem, r0, r1]) rfl HX.out
  · have HX : Hid (P (.returned (.tuple #[.agg #[.int .i64 0, .int .i64 (-1)], .bool true])) (put2 W0 (w.heap.size + 2) (.int .i64 0) (.int .i64 (-1)))) := HE.out _ (below_put2 BH.out (by omega) _ _)
    have RX : Hid (BX 53 (put2 W0 (w.heap.size + 2) (.int .i64 0) (.int .i64 (-1))) (w.heap.size + 2) #[.int .i64 0, .int .i64 (-1)]) := T1.out.put2 _ _
    go_wp2_with fail
    obtain ⟨r0, r1, _⟩ := RX.out.all2
    unfold put2 at r0 r1
    exact bodyPost_ret (v := .tuple #[.agg #[.int .i64 0, .int .i64 (-1)], .bool true]) (by simp [results, Try.results98, go_sem, r0, r1]) rfl HX.out

set_option maxHeartbeats 1000000 in
theorem wBegin_any (v s : Int) (x : Ml) (w : World) :
    Calls Try.prog 104 #[.agg #[], .int .i64 v, .int .i64 s, .agg #[.int .i64 x.1, .int .i64 x.2]] w (ValP w ((v, -1), true)) := by
  have HE : Hid (∀ w', Below w.heap.size w w' → ValP w ((v, -1), true) (.returned (.tuple #[.agg #[.int .i64 v, .int .i64 (-1)], .bool true])) w') := fun w' hw => ⟨rfl, hw⟩
  generalize ValP w ((v, -1), true) = P at *
  go_enter Try.func104, Try.ntmps104
  go_upto_region 1 with fail
  obtain ⟨_, Q0, T0, B0, s1, s2⟩ := boxes3 w #[] #[.int .i64 x.1, .int .i64 x.2] #[.int .i64 0, .int .i64 0] 85 53 53 _ rfl
  generalize ((w.alloc (.cells #[] 85)).alloc (.cells #[.int .i64 x.1, .int .i64 x.2] 53)).alloc (.cells #[.int .i64 0, .int .i64 0] 53) = W0 at *
  have T1 : Hid (BX 53 W0 (w.heap.size + 2) #[.int .i64 0, .int .i64 0]) := T0
  have BH : Hid (Below w.heap.size w W0) := B0
  obtain ⟨t0, t1, t2, t3⟩ := T0.all2
  clear Q0 T0 B0
  have HX : Hid (P (.returned (.tuple #[.agg #[.int .i64 v, .int .i64 (-1)], .bool true])) (put2 W0 (w.heap.size + 2) (.int .i64 v) (.int .i64 (-1)))) := HE.out _ (below_put2 BH.out (by omega) _ _)
  have RX : Hid (BX 53 (put2 W0 (w.heap.size + 2) (.int .i64 v) (.int .i64 (-1))) (w.heap.size + 2) #[.int .i64 v, .int .i64 (-1)]) := T1.out.put2 _ _
  go_wp2_with fail
  obtain ⟨r0, r1, _⟩ := RX.out.all2
  unfold put2 at r0 r1
  exact bodyPost_ret (v := .tuple #[.agg #[.int .i64 v, .int .i64 (-1)], .bool true]) (by simp [results, Try.results104, go_sem, r0, r1]) rfl HX.out
end Go.Proofs.Ytinijeejfnehmaa
