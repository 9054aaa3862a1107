/-
  Contract of the document's own GraphSorted.
-/
import Derived.Test.YtpoablcdfiimhaaRefOrder
import Derived.Test.YtpoablcdfiimhaaOrderLib
import Derived.Test.YtpoablcdfiimhaaFaultWalk
namespace Go.Proofs.Ytpoablcdfiimhaa
open Go.ChangeShapes Go.WideShapes Go.ChangeAt Go.RowKit

/-- What is had of the two boxes of a graph in a later world. -/
def Box2 (w V : World) (n : Int) (v : Value) : Prop :=
  V.cell? ⟨w.heap.size, 0, none⟩ = some (.int .i64 n) ∧ V.cell? ⟨w.heap.size, 1, none⟩ = some v ∧ V.cell? ⟨w.heap.size + 1, 0, none⟩ = some (.int .i64 0) ∧ V.cell? ⟨w.heap.size + 1, 1, none⟩ = some (.slice none 0 0) ∧ V.frozen? ⟨w.heap.size + 1, 0, none⟩ = false ∧ V.frozen? ⟨w.heap.size + 1, 1, none⟩ = false
theorem box2 {w V : World} {n : Int} {v : Value} (h : Below (w.heap.size + 2) ((w.alloc (.cells #[.int .i64 n, v] 24)).alloc (.cells #[.int .i64 0, .slice none 0 0] 24)) V) : Box2 w V n v := by
  obtain ⟨q0, q1, q2, q3⟩ := gbox2 h
  obtain ⟨q4, q5⟩ := gbox1 h
  exact ⟨q4, q5, q0, q1, q2, q3⟩

theorem box1_put {V : World} {b : Nat} {n m : Int} {v u : Value} (h : V.cell? ⟨b, 0, none⟩ = some (.int .i64 n) ∧ V.cell? ⟨b, 1, none⟩ = some v) :
    ((V.setCell ⟨b + 1, 0, none⟩ (.int .i64 m)).setCell ⟨b + 1, 1, none⟩ u).cell? ⟨b, 0, none⟩ = some (.int .i64 n) ∧ ((V.setCell ⟨b + 1, 0, none⟩ (.int .i64 m)).setCell ⟨b + 1, 1, none⟩ u).cell? ⟨b, 1, none⟩ = some v := by
  have ne : ∀ i j, (⟨b + 1, i, none⟩ : Addr) ≠ ⟨b, j, none⟩ := fun i j e => by injection e with e; omega
  exact ⟨((World.cell?_setCell_other _ _ _ _ (ne _ _)).trans (World.cell?_setCell_other _ _ _ _ (ne _ _))).trans h.1, ((World.cell?_setCell_other _ _ _ _ (ne _ _)).trans (World.cell?_setCell_other _ _ _ _ (ne _ _))).trans h.2⟩
theorem refOrder_sl (v : Value) (es : List Ed) (w : World) (h : EdR w v es) (hl : es.length ≤ 600) :
    Calls Try.prog 31 #[v] w fun e w' => ∃ a n c, e = .returned (.slice a n c) ∧ w'.ownsRow w.heap.size 47 3 (.slice a n c) (sortE es).length ((sortE es).flatMap encE) ∧ Below w.heap.size w w' :=
  (refOrder_any v es w h hl).mono fun e w' ⟨v', he, ho, hb⟩ => by
    obtain ⟨a, c, e', _⟩ := RowK.own encE_len ho
    subst e'
    exact ⟨_, _, _, he, ho, hb⟩

set_option maxHeartbeats 2000000 in
set_option maxRecDepth 100000 in
theorem refSorted_any (v : Value) (es : List Ed) (n : Int) (w : World) (h : EdR w v es) :
    Calls Try.prog 13 #[.agg #[.int .i64 n, v]] w fun e w' => ∃ v', e = .returned (.tuple #[.agg #[.int .i64 (okN (faultE n es) n), v'], .int .i64 (faultE n es)]) ∧
      w'.ownsRow w.heap.size 47 3 v' (okL (faultE n es) (sortE es)).length ((okL (faultE n es) (sortE es)).flatMap encE) ∧ Below w.heap.size w w' := by
  have HR : Hid (EdR w v es) := h
  obtain ⟨a, cap, rfl⟩ := h.shape
  clear h
  have HCK : Hid (∀ X, EdR X (.slice a es.length cap) es → Calls Try.prog 11 #[.agg #[.int .i64 n, .slice a es.length cap]] X fun e w' => e = .returned (.int .i64 (faultE n es)) ∧ Below X.heap.size X w') := fun X hX => fault_walk _ es n X hX
  by_cases hf : faultE n es = 0
  · have hle : es.length ≤ 600 := (fault_ok hf).2.2.1
    rw [hf, okN_yes, okL_yes]
    rw [hf] at HCK
    clear hf
    go_enter Try.func13, Try.ntmps13
    go_wp2_with fail
    refine (HCK.out _ ?_).mono ?_
    · exact HR.out.below ((below_alloc w _).alloc (by simp) _) (Nat.le_refl _)
    rintro e w1 ⟨rfl, hb1⟩
    have B1 : Hid (Below (w.heap.size + 2) ((w.alloc (.cells #[.int .i64 n, .slice a es.length cap] 24)).alloc (.cells #[.int .i64 0, .slice none 0 0] 24)) w1) := by
      show Below _ _ _
      simpa using hb1
    have hs1 : w.heap.size + 2 ≤ w1.heap.size := by have := B1.out.size; simpa using this
    have HR1 : Hid (EdR w1 (.slice a es.length cap) es) := HR.out.below (below_two B1.out) (Nat.le_refl _)
    have KEEP : Hid (∀ V, Below w1.heap.size w1 V → Box2 w V n (.slice a es.length cap)) := fun V hV => box2 (B1.out.trans (hV.mono hs1))
    have KEEP1 : Hid (∀ V, Below w1.heap.size w1 V → V.cell? ⟨w.heap.size, 0, none⟩ = some (.int .i64 n) ∧ V.cell? ⟨w.heap.size, 1, none⟩ = some (.slice a es.length cap)) := fun V hV => ⟨(KEEP.out V hV).1, (KEEP.out V hV).2.1⟩
    clear hb1 HCK
    go_upto_region 4 with fail
    go_region_held3 (fun V => V.cell? ⟨w.heap.size, 0, none⟩ = some (.int .i64 n) ∧ V.cell? ⟨w.heap.size, 1, none⟩ = some (.slice a es.length cap)) (first | exact KEEP1.out _ ((Below.refl _ _).drew) | (refine KEEP1.out _ (below_undrew ?_); assumption) | (refine box1_put (KEEP1.out _ (below_undrew ?_)); assumption)) (first | (go_at_call 31; refine (refOrder_sl _ es _ (HR1.out.below (Below.refl _ _).drew (Nat.le_refl _)) hle).mono ?_; rintro e w2 ⟨va, vn, vc, rfl, hown2, hb2⟩; obtain ⟨_, _, k0, k1, k2, k3⟩ := KEEP.out _ (below_undrew hb2)))
    rename_i hh
    have B2 : Hid (Below w1.heap.size w1 w2) := below_undrew hb2
    have O2 : Hid (w2.ownsRow w1.heap.size 47 3 (.slice va vn vc) (sortE es).length ((sortE es).flatMap encE)) := hown2
    have BB : Hid (Below (w.heap.size + 2) ((w.alloc (.cells #[.int .i64 n, .slice a es.length cap] 24)).alloc (.cells #[.int .i64 0, .slice none 0 0] 24)) w2) := B1.out.trans (B2.out.mono hs1)
    clear hh hb2 hown2 KEEP KEEP1
    go_wp2_with fail
    obtain ⟨r0, r1⟩ := gput_cells (n := n) (v := .slice va vn vc) k0 k1
    have hb : ∀ (p : Addr), p.block = w.heap.size + 1 → p.block < w1.heap.size := fun p hp => by omega
    refine bodyPost_ret (v := .tuple #[.agg #[.int .i64 n, .slice va vn vc], .int .i64 0]) (by simp [results, Try.results13, go_sem, r0, r1]) rfl ⟨_, rfl, ?_, ?_⟩
    · exact own_lower (RowK.setBelow (RowK.setBelow O2.out (hb _ rfl) _) (hb _ rfl) _) (by omega)
    · exact ((below_two BB.out).setCell (Nat.le_succ _) _).setCell (Nat.le_succ _) _
  · have hne : (faultE n es != 0) = true := by simpa using hf
    rw [okN_no hf, okL_no hf]
    generalize faultE n es = fe at *
    clear hf
    go_enter Try.func13, Try.ntmps13
    go_wp2_with fail
    refine (HCK.out _ ?_).mono ?_
    · exact HR.out.below ((below_alloc w _).alloc (by simp) _) (Nat.le_refl _)
    rintro e w1 ⟨rfl, hb1⟩
    have B1 : Hid (Below (w.heap.size + 2) ((w.alloc (.cells #[.int .i64 n, .slice a es.length cap] 24)).alloc (.cells #[.int .i64 0, .slice none 0 0] 24)) w1) := by
      show Below _ _ _
      simpa using hb1
    clear hb1 HCK
    obtain ⟨q0, q1, q2, q3⟩ := gbox2 B1.out
    go_wp2_with fail
    obtain ⟨r0, r1⟩ := gput_cells (n := 0) (v := .slice none 0 0) q0 q1
    refine bodyPost_ret (v := .tuple #[.agg #[.int .i64 0, .slice none 0 0], .int .i64 fe]) (by simp [results, Try.results13, go_sem, r0, r1]) rfl ⟨_, rfl, ?_, ?_⟩
    · exact World.ownsRow_nil _ _ _ _
    · exact ((below_two B1.out).setCell (Nat.le_succ _) _).setCell (Nat.le_succ _) _
end Go.Proofs.Ytpoablcdfiimhaa
