/-
  Contracts of graph's inOrder, for edges as they are and for edges turned.
-/
import Derived.Test.YtankibadiomkkabOrderLib
namespace Go.Proofs.Ytankibadiomkkab
set_option maxRecDepth 100000
open Go.ChangeShapes Go.WideShapes Go.ChangeAt Go.RowKit

set_option maxHeartbeats 2000000 in
set_option maxRecDepth 100000 in
theorem inOrder_turn (v : Value) (es : List Ed) (n : Int) (w : World) (h : EdR w v es) :
    Calls Try.prog 14 #[.agg #[.int .i64 n, v], .func (.func 15) #[] #[]] w fun e w' => ∃ v', e = .returned (.tuple #[.agg #[.int .i64 (okN (faultE n es) n), v'], .int .i64 (faultE n es)]) ∧
      w'.ownsRow w.heap.size 37 3 v' (okL (faultE n es) (sortE (es.map turnE))).length ((okL (faultE n es) (sortE (es.map turnE))).flatMap encE) ∧ Below w.heap.size w w' := by
  have HR : Hid (EdR w v es) := h
  obtain ⟨a, cap, rfl, hc, hm, _, _⟩ := h
  unfold maxLen at hm
  by_cases hf : faultE n es = 0
  · have HOK : Hid (0 ≤ n ∧ n ≤ 200 ∧ es.length ≤ 600 ∧ ∀ e ∈ es, outE n e = false) := fault_ok hf
    have hle := HOK.out.2.2.1
    rw [hf, okN_yes, okL_yes]
    have HF0 : Hid (faultE n es = 0) := hf
    clear hf
    go_enter Try.func14, Try.ntmps14
    go_wp2_with fail
    have hchk := fun X (hX : EdR X (.slice a es.length cap) es) => check_any _ es n X hX
    rw [HF0.out] at hchk
    refine (hchk _ ?_).mono ?_
    · exact HR.out.below ((below_alloc w _).alloc (by simp) _) (Nat.le_refl _)
    clear hchk
    rintro e w1 ⟨rfl, hb1⟩
    have B1 : Hid (Below (w.heap.size + 2) ((w.alloc (.cells #[.int .i64 n, .slice a es.length cap] 25)).alloc (.cells #[.int .i64 0, .slice none 0 0] 25)) w1) := by
      show Below _ _ _
      simpa using hb1
    have hs1 : w.heap.size + 2 ≤ w1.heap.size := by have := B1.out.size; simpa using this
    clear hb1
    obtain ⟨k4, k5⟩ := gbox1 B1.out
    go_wp2_with fail
    go_loopw [7, 19] (fun u i wr => ∃ k : Nat, k ≤ es.length ∧ i = .int .i64 k ∧ wr.ownsRow (w.heap.size + 2) 37 3 u ((es.take k).map turnE).length (((es.take k).map turnE).flatMap encE) ∧ Below (w.heap.size + 2) ((w.alloc (.cells #[.int .i64 n, .slice a es.length cap] 25)).alloc (.cells #[.int .i64 0, .slice none 0 0] 25)) wr) (fun _ i _ => es.length - (intOf i).toNat)
    case atStart => exact ⟨0, by omega, rfl, World.ownsRow_nil _ _ _ _, B1.out⟩
    case round =>
      obtain ⟨k, hk, rfl, hown, hbel⟩ := hrel
      have OW : Hid (wr.ownsRow (w.heap.size + 2) 37 3 u7 ((es.take k).map turnE).length (((es.take k).map turnE).flatMap encE)) := hown
      have HB : Hid (Below (w.heap.size + 2) ((w.alloc (.cells #[.int .i64 n, .slice a es.length cap] 25)).alloc (.cells #[.int .i64 0, .slice none 0 0] 25)) wr) := hbel
      have hsr : w.heap.size + 2 ≤ wr.heap.size := by have := hbel.size; simpa using this
      clear hown hbel
      by_cases hlt : k < es.length
      · obtain ⟨b, off, cap', e1, _, _, lt, hv⟩ := EdR.at (HR.out.below (below_two HB.out) (Nat.le_refl _)) (by omega)
        injection e1 with e1 _ e3
        subst e1 e3
        obtain ⟨x, hx⟩ := getE hlt
        obtain ⟨c1, c2, c3⟩ := hv k x hx
        have HT : Hid ((es.take (k + 1)).map turnE = (es.take k).map turnE ++ [turnE x]) := by show _ = _; rw [take_snoc hx, List.map_append]; rfl
        have hlen : ((es.take k).map turnE).length ≤ 600 := by simp; omega
        clear hv hx k4 k5
        generalize (es.take k).map turnE = f at *
        go_wp2_with fail
        refine (turn_any x _).mono ?_
        rintro e w2 ⟨rfl, hb2⟩
        have HB2 : Hid (Below (w.heap.size + 2) ((w.alloc (.cells #[.int .i64 n, .slice (some ⟨b, off, none⟩) es.length cap] 25)).alloc (.cells #[.int .i64 0, .slice none 0 0] 25)) w2) := (HB.out.alloc hsr _).trans (hb2.mono (by simp; omega))
        have O2 : Hid (w2.ownsRow (w.heap.size + 2) 37 3 u7 f.length (f.flatMap encE)) := own_below (OW.out.alloc _) hb2 (Nat.le_refl _)
        have hs2 : wr.heap.size + 1 ≤ w2.heap.size := by have := hb2.size; simpa using this
        clear hb2
        generalize turnE x = y at *
        go_wp2_with (at_builtin; refine wpList_append_newK kE rfl _ _ rfl (w.heap.size + 2) _ f rfl (O2.out.alloc _) w2.heap.size y rfl #[.int .i64 y.1, .int .i64 y.2.1, .int .i64 y.2.2] rfl (0, 0) (heap_alloc_new _ _) (by simp [kE]; omega) (by unfold maxLen; omega) (by simp; omega) ?_)
        intro g c w3 hown3 hb3 _
        have O3 : Hid (w3.ownsRow (w.heap.size + 2) 37 3 (.slice (some ⟨g, 0, none⟩) (f.length + 1) c) ((es.take (k + 1)).map turnE).length (((es.take (k + 1)).map turnE).flatMap encE)) := by show World.ownsRow _ _ _ _ _ _ _; rw [HT.out, flat_snoc, List.length_append]; exact hown3
        have HB3 : Hid (Below (w.heap.size + 2) ((w.alloc (.cells #[.int .i64 n, .slice (some ⟨b, off, none⟩) es.length cap] 25)).alloc (.cells #[.int .i64 0, .slice none 0 0] 25)) w3) := (HB2.out.alloc (by omega) _).trans hb3
        clear hown3 hb3
        go_wp2_with fail
        go_roundw
        case rel => exact ⟨k + 1, by omega, by go_num, O3.out, HB3.out⟩
        case measure => simp [intOf]; omega
      · have ek : es.take k = es := List.take_of_length_le (by omega)
        have O2 : Hid (wr.ownsRow (w.heap.size + 2) 37 3 u7 (es.map turnE).length ((es.map turnE).flatMap encE)) := by have := OW.out; rwa [ek] at this
        have hml : (es.map turnE).length < 4611686018427387904 := by simp; omega
        clear ek OW k4 k5
        go_wp2_with fail
        refine (sort_any _ _ (es.map turnE) _ O2.out hml).mono ?_
        rintro e w3 ⟨rfl, hown3, hb3⟩
        have O3 : Hid (w3.ownsRow (w.heap.size + 2) 37 3 u7 (sortE (es.map turnE)).length ((sortE (es.map turnE)).flatMap encE)) := hown3
        have BB : Hid (Below (w.heap.size + 2) ((w.alloc (.cells #[.int .i64 n, .slice a es.length cap] 25)).alloc (.cells #[.int .i64 0, .slice none 0 0] 25)) w3) := HB.out.trans hb3
        obtain ⟨q0, q1, q2, q3⟩ := gbox2 BB.out
        obtain ⟨q4, q5⟩ := gbox1 BB.out
        obtain ⟨va, vn, vc, rfl⟩ : ∃ a n c, u7 = .slice a n c := by obtain ⟨a, c, e, _⟩ := RowK.own encE_len O3.out; exact ⟨_, _, _, e⟩
        clear hown3 hb3 O2 HB
        go_wp2_with fail
        obtain ⟨r0, r1⟩ := gput_cells (n := n) (v := .slice va vn vc) q0 q1
        have hb : ∀ (p : Addr), p.block = w.heap.size + 1 → p.block < w.heap.size + 2 := fun p hp => by omega
        refine bodyPost_ret (v := .tuple #[.agg #[.int .i64 n, .slice va vn vc], .int .i64 0]) (by simp [results, Try.results14, go_sem, r0, r1]) rfl ⟨_, rfl, ?_, ?_⟩
        · exact own_lower (RowK.setBelow (RowK.setBelow O3.out (hb _ rfl) _) (hb _ rfl) _) (by omega)
        · exact ((below_two BB.out).setCell (Nat.le_succ _) _).setCell (Nat.le_succ _) _
  · have hne : (faultE n es != 0) = true := by simpa using hf
    rw [okN_no hf, okL_no hf]
    have HCK : Hid (∀ X, EdR X (.slice a es.length cap) es → Calls Try.prog 17 #[.agg #[.int .i64 n, .slice a es.length cap]] X fun e w' => e = .returned (.int .i64 (faultE n es)) ∧ Below X.heap.size X w') := fun X hX => check_any _ es n X hX
    generalize faultE n es = fe at *
    clear hf
    go_enter Try.func14, Try.ntmps14
    go_wp2_with fail
    refine (HCK.out _ ?_).mono ?_
    · exact HR.out.below ((below_alloc w _).alloc (by simp) _) (Nat.le_refl _)
    rintro e w1 ⟨rfl, hb1⟩
    have B1 : Hid (Below (w.heap.size + 2) ((w.alloc (.cells #[.int .i64 n, .slice a es.length cap] 25)).alloc (.cells #[.int .i64 0, .slice none 0 0] 25)) w1) := by
      show Below _ _ _
      simpa using hb1
    have hs1 : w.heap.size + 2 ≤ w1.heap.size := by have := B1.out.size; simpa using this
    clear hb1
    obtain ⟨q0, q1, q2, q3⟩ := gbox2 B1.out
    go_wp2_with fail
    obtain ⟨r0, r1⟩ := gput_cells (n := 0) (v := .slice none 0 0) q0 q1
    refine bodyPost_ret (v := .tuple #[.agg #[.int .i64 0, .slice none 0 0], .int .i64 fe]) (by simp [results, Try.results14, go_sem, r0, r1]) rfl ⟨_, rfl, ?_, ?_⟩
    · exact World.ownsRow_nil _ _ _ _
    · exact ((below_two B1.out).setCell (Nat.le_succ _) _).setCell (Nat.le_succ _) _
end Go.Proofs.Ytankibadiomkkab
