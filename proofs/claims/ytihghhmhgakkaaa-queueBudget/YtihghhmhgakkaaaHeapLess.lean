/-
  Contracts of the heap's Len and Less.
-/
import Derived.Test.YtihghhmhgakkaaaHeapMem
import Derived.Test.YtihghhmhgakkaaaMailCmp
namespace Go.Proofs.Ytihghhmhgakkaaa
set_option maxRecDepth 100000
open Go.ChangeShapes Go.WideShapes Go.ChangeAt Go.RowKit Go.Sort

set_option maxHeartbeats 400000 in
theorem hLen_any (q : Nat) (hs : List Hd) (w : World) (h : HX w q hs) :
    Calls Try.prog 72 #[.pointer (some ⟨q, 0, none⟩)] w fun e w' => e = .returned (.int .i64 hs.length) ∧ w' = w := by
  obtain ⟨a, c, _, _, c0, c1, _, _, _⟩ := h.at
  go_enter Try.func72, Try.ntmps72
  go_wp2_with fail
  go_ret
  exact ⟨rfl, rfl⟩

set_option maxHeartbeats 1000000 in
set_option maxRecDepth 100000 in
theorem hLess_any (q : Nat) (hs : List Hd) (i j : Nat) (x y : Hd) (w : World) (h : HX w q hs) (hx : hs[i]? = some x) (hy : hs[j]? = some y) :
    Calls Try.prog 118 #[.pointer (some ⟨q, 0, none⟩), .int .i64 i, .int .i64 j] w fun e w' => e = .returned (.bool (ltMb x.x y.x)) ∧ Below w.heap.size w w' := by
  obtain ⟨a, c, _, _, c0, c1, hc, hm, hat⟩ := h.at
  unfold maxLen at hm
  have hi : i < hs.length := (List.getElem?_eq_some_iff.1 hx).1
  have hj : j < hs.length := (List.getElem?_eq_some_iff.1 hy).1
  obtain ⟨g, rfl, _, _, hcell⟩ := hat (by omega)
  obtain ⟨x1, x2, _⟩ := hcell _ _ hx
  obtain ⟨y1, y2, _⟩ := hcell _ _ hy
  unfold fnM at c1
  have g0 := cell_regrown c0
  have g5 := cell_regrown c1
  have g1 := cell_regrown x1
  have g2 := cell_regrown x2
  have g3 := cell_regrown y1
  have g4 := cell_regrown y2
  have EE : ∀ d os, Calls Try.prog 51 #[.agg #[.int .i64 x.x.1, .int .i64 x.x.2], .agg #[.int .i64 y.x.1, .int .i64 y.x.2]] (grow (redrawn w d) os) fun e w'' => e = .returned (.int .i64 (cmpM x.x y.x)) ∧ ∃ p : Regrown, w'' = grow (redrawn w p.d) p.os := fun d os => Calls.regrown_of (mailCmp_any x.x y.x _)
  have HCC : Hid (decide (cmpM x.x y.x < 0) = ltMb x.x y.x) := cmpM_lt x.x y.x
  generalize ltMb x.x y.x = r at *
  generalize cmpM x.x y.x = cc at *
  have i1 : (0 : Int) ≤ (i : Int) := by omega
  have i2 : (i : Int) < (hs.length : Int) := by omega
  have i3 : (0 : Int) ≤ (j : Int) := by omega
  have i4 : (j : Int) < (hs.length : Int) := by omega
  clear hx hy x1 x2 y1 y2 hcell hat c0 c1
  go_enter Try.func118, Try.ntmps118
  go_wp2_with fail
  refine wp_region_quiet_below (by kernel_rfl) (by kernel_rfl) ?_
  repeat (quiet_step (exact EE _ _))
  refine wpQuiet_nil ?_
  intro _ hw'
  obtain ⟨⟨dq, osq⟩, hw''⟩ := hw'
  have HB9 : Hid (Below w.heap.size w (grow (redrawn w dq) osq)) := below_regrown w dq osq
  subst hw''
  generalize grow (redrawn w dq) osq = W9 at HB9 ⊢
  clear g0 g1 g2 g3 g4 g5 EE
  go_wp2_with fail
  go_ret
  exact ⟨by rw [← HCC.out]; rfl, HB9.out⟩
end Go.Proofs.Ytihghhmhgakkaaa
