/-
  Contract of graph.Reverse.
-/
import Derived.Test.YtankibadiomkkabOrderTurn
namespace Go.Proofs.Ytankibadiomkkab
set_option maxRecDepth 100000
open Go.ChangeShapes Go.WideShapes Go.ChangeAt Go.RowKit

set_option maxHeartbeats 1000000 in
theorem reverse_any (v : Value) (es : List Ed) (n : Int) (w : World) (h : EdR w v es) :
    Calls Try.prog 9 #[.agg #[.int .i64 n, v]] w fun e w' => ∃ v', e = .returned (.tuple #[.agg #[.int .i64 (okN (faultE n es) n), v'], .int .i64 (faultE n es)]) ∧
      w'.ownsRow w.heap.size 37 3 v' (okL (faultE n es) (sortE (es.map turnE))).length ((okL (faultE n es) (sortE (es.map turnE))).flatMap encE) ∧ Below w.heap.size w w' := by
  have HR : Hid (EdR w v es) := h
  have HC : Hid (∀ X, EdR X v es → Calls Try.prog 14 #[.agg #[.int .i64 n, v], .func (.func 15) #[] #[]] X fun e w' => ∃ v', e = .returned (.tuple #[.agg #[.int .i64 (okN (faultE n es) n), v'], .int .i64 (faultE n es)]) ∧
      w'.ownsRow X.heap.size 37 3 v' (okL (faultE n es) (sortE (es.map turnE))).length ((okL (faultE n es) (sortE (es.map turnE))).flatMap encE) ∧ Below X.heap.size X w') := fun X hX => inOrder_turn v es n X hX
  obtain ⟨a, cap, rfl⟩ := h.shape
  clear h
  generalize okL (faultE n es) (sortE (es.map turnE)) = L at *
  generalize okN (faultE n es) n = N at *
  generalize faultE n es = fe at *
  go_enter Try.func9, Try.ntmps9
  go_wp2_with fail
  refine (HC.out _ ?_).mono ?_
  · exact HR.out.below ((below_alloc w _).alloc (by simp) _) (Nat.le_refl _)
  rintro e w1 ⟨v', rfl, hown, hb1⟩
  have B1 : Hid (Below (w.heap.size + 2) ((w.alloc (.cells #[.int .i64 n, .slice a es.length cap] 25)).alloc (.cells #[.int .i64 0, .slice none 0 0] 25)) w1) := by
    show Below _ _ _
    simpa using hb1
  have OW : Hid (w1.ownsRow (w.heap.size + 2) 37 3 v' L.length (L.flatMap encE)) := by
    show World.ownsRow _ _ _ _ _ _ _
    simpa using hown
  obtain ⟨q0, q1, q2, q3⟩ := gbox2 B1.out
  obtain ⟨va, vn, vc, rfl⟩ : ∃ a n c, v' = .slice a n c := by obtain ⟨a, c, e, _⟩ := RowK.own encE_len OW.out; exact ⟨_, _, _, e⟩
  clear hown hb1 HC
  go_wp2_with fail
  obtain ⟨r0, r1⟩ := gput_cells (n := N) (v := .slice va vn vc) q0 q1
  have hb : ∀ (p : Addr), p.block = w.heap.size + 1 → p.block < w.heap.size + 2 := fun p hp => by omega
  refine bodyPost_ret (v := .tuple #[.agg #[.int .i64 N, .slice va vn vc], .int .i64 fe]) (by simp [results, Try.results9, go_sem, r0, r1]) rfl ⟨_, rfl, ?_, ?_⟩
  · exact own_lower (RowK.setBelow (RowK.setBelow OW.out (hb _ rfl) _) (hb _ rfl) _) (by omega)
  · exact ((below_two B1.out).setCell (Nat.le_succ _) _).setCell (Nat.le_succ _) _
end Go.Proofs.Ytankibadiomkkab
