/-
  Contract of graph's compare.
-/
import Derived.Test.YtankibadiomkkabCmpWalk
namespace Go.Proofs.Ytankibadiomkkab
set_option maxRecDepth 100000
open Go.ChangeShapes Go.WideShapes Go.ChangeAt Go.RowKit Go.Sort

theorem heap_third (w : World) (o1 o2 : Obj) (cs : Array Value) (t : TypeId) : (((w.alloc o1).alloc o2).alloc (.cells cs t)).drew.heap[w.heap.size + 1 + 1]? = some (.cells cs t (0, 0)) := by
  have := heap_second (w.alloc o1) o2 cs t
  have e : (w.alloc o1).heap.size = w.heap.size + 1 := by simp
  rw [e] at this
  exact this
/-- A world behind W: blocks are laid, nothing is turned; the boxes of the two edges. -/
def CmpS (W V : World) (a0 a1 a2 b0 b1 b2 : Int) : Prop :=
  V.cell? ⟨W.heap.size, 0, none⟩ = some (.int .i64 a0) ∧ V.cell? ⟨W.heap.size + 1, 0, none⟩ = some (.int .i64 b0) ∧ V.cell? ⟨W.heap.size, 1, none⟩ = some (.int .i64 a1) ∧ V.cell? ⟨W.heap.size + 1, 1, none⟩ = some (.int .i64 b1) ∧ V.cell? ⟨W.heap.size, 2, none⟩ = some (.int .i64 a2) ∧ V.cell? ⟨W.heap.size + 1, 2, none⟩ = some (.int .i64 b2) ∧ ∃ q os', V = grow (W.drewN q) os'
theorem cmpS_start (W : World) (a0 a1 a2 b0 b1 b2 : Int) : CmpS W ((W.alloc (.cells #[.int .i64 a0, .int .i64 a1, .int .i64 a2] 37)).alloc (.cells #[.int .i64 b0, .int .i64 b1, .int .i64 b2] 37)).drew a0 a1 a2 b0 b1 b2 := by
  refine ⟨by simp, by simp, by simp, by simp, by simp, by simp, 1, #[.cells #[.int .i64 a0, .int .i64 a1, .int .i64 a2] 37, .cells #[.int .i64 b0, .int .i64 b1, .int .i64 b2] 37], ?_⟩
  rw [alloc_eq_grow, alloc_eq_grow, grow_grow]; rfl
theorem cmpS_alloc {W V : World} {a0 a1 a2 b0 b1 b2 : Int} (h : CmpS W V a0 a1 a2 b0 b1 b2) (o : Obj) : CmpS W (V.alloc o) a0 a1 a2 b0 b1 b2 := by
  obtain ⟨h1, h2, h3, h4, h5, h6, q, os, h7⟩ := h
  have c : ∀ {p : Addr} {v : Value}, V.cell? p = some v → (V.alloc o).cell? p = some v := fun {p v} hp => ((below_alloc V o).cell (p := p) (World.block_lt_of_cell? V p hp)).trans hp
  exact ⟨c h1, c h2, c h3, c h4, c h5, c h6, q, os ++ #[o], by rw [alloc_eq_grow, h7, grow_grow]⟩

set_option maxHeartbeats 2000000 in
set_option maxRecDepth 100000 in
/-- graph's compare: in whatever world; blocks are laid, nothing is turned. -/
theorem compare_any (x y : Ed) (W : World) : Calls Try.prog 19 #[.agg #[.int .i64 x.1, .int .i64 x.2.1, .int .i64 x.2.2], .agg #[.int .i64 y.1, .int .i64 y.2.1, .int .i64 y.2.2]] W fun e w' => e = .returned (.int .i64 (cmpE x y)) ∧ ∃ q os', w' = grow (W.drewN q) os' := by
  rw [cmpE_or]
  obtain ⟨a0, a1, a2⟩ := x
  obtain ⟨b0, b1, b2⟩ := y
  simp only
  have HS0 : Hid (CmpS W _ a0 a1 a2 b0 b1 b2) := cmpS_start W a0 a1 a2 b0 b1 b2
  generalize hor : or3 (cmpI a0 b0) (cmpI a1 b1) (cmpI a2 b2) = rr
  have c3 : Hid (∀ (q : Nat) (V : World), V.heap[q]? = some (.cells #[.int .i64 (cmpI a0 b0), .int .i64 (cmpI a1 b1), .int .i64 (cmpI a2 b2)] 3 (0, 0)) → Calls Try.prog 25 #[.slice (some ⟨q, 0, none⟩) 3 3] V fun e w' => e = .returned (.int .i64 rr) ∧ w' = V) := fun q V h => by rw [← hor]; exact cmpOr_any _ _ _ q V (by rw [cell_of_row _ _ _ _ _ _ h]; rfl) (by rw [cell_of_row _ _ _ _ _ _ h]; rfl) (by rw [cell_of_row _ _ _ _ _ _ h]; rfl)
  clear hor
  go_enter Try.func19, Try.ntmps19
  go_wp2_with fail
  go_region_held3 (fun V => V.cell? ⟨W.heap.size, 0, none⟩ = some (.int .i64 a0) ∧ V.cell? ⟨W.heap.size + 1, 0, none⟩ = some (.int .i64 b0) ∧ V.cell? ⟨W.heap.size, 1, none⟩ = some (.int .i64 a1) ∧ V.cell? ⟨W.heap.size + 1, 1, none⟩ = some (.int .i64 b1) ∧ V.cell? ⟨W.heap.size, 2, none⟩ = some (.int .i64 a2) ∧ V.cell? ⟨W.heap.size + 1, 2, none⟩ = some (.int .i64 b2) ∧ ∃ q os', V = grow (W.drewN q) os') (first | exact HS0.out | assumption | exact cmpS_alloc (by assumption) _) (first | (go_at_call 26; refine (cmpInt_any _ _ _).mono ?_; rintro e w1 ⟨rfl, rfl⟩) | (go_at_call 25; refine (c3.out _ _ (heap_third _ _ _ _ _)).mono ?_; rintro e w1 ⟨rfl, rfl⟩))
  all_goals (rename_i hh; clear hh)
  go_wp2_with fail
  go_ret
  exact ⟨rfl, 1, _, by rw [alloc_eq_grow, alloc_eq_grow, alloc_eq_grow, grow_grow, grow_grow]; rfl⟩
end Go.Proofs.Ytankibadiomkkab
