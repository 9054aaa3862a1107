/-
  Contracts of the heap's Len and Less.
-/
import Derived.Test.YtankibadiomkkaaTipMem
import Derived.Test.YtankibadiomkkaaTipMath
import Derived.BigQuiet
namespace Go.Proofs.Ytankibadiomkkaa
set_option maxRecDepth 100000
open Go.ChangeShapes Go.WideShapes Go.ChangeAt Go.RowKit

set_option maxHeartbeats 400000 in
theorem yLen_any (q : Nat) (hs : List Tp) (w : World) (h : TX w q hs) :
    Calls Try.prog 35 #[.pointer (some ⟨q, 0, none⟩)] w fun e w' => e = .returned (.int .i64 hs.length) ∧ w' = w := by
  obtain ⟨a, c, _, _, c0, _, _, _⟩ := h.at
  go_enter Try.func35, Try.ntmps35
  go_wp2_with fail
  go_ret
  exact ⟨rfl, rfl⟩

set_option maxHeartbeats 1000000 in
set_option maxRecDepth 100000 in
theorem yLess_any (q : Nat) (hs : List Tp) (i j : Nat) (x y : Tp) (w : World) (h : TX w q hs) (hx : hs[i]? = some x) (hy : hs[j]? = some y) :
    Calls Try.prog 89 #[.pointer (some ⟨q, 0, none⟩), .int .i64 i, .int .i64 j] w fun e w' => e = .returned (.bool (ltYb x y)) ∧ Below w.heap.size w w' := by
  obtain ⟨a, c, _, _, c0, hc, hm, hat⟩ := h.at
  unfold maxLen at hm
  have hi : i < hs.length := (List.getElem?_eq_some_iff.1 hx).1
  have hj : j < hs.length := (List.getElem?_eq_some_iff.1 hy).1
  obtain ⟨g, rfl, _, _, _, hcell⟩ := hat (by omega)
  obtain ⟨_, x2⟩ := hcell _ _ hx
  obtain ⟨_, y2⟩ := hcell _ _ hy
  have HCC : Hid (decide (x.1 < y.1) = ltYb x y) := rfl
  have i1 : (0 : Int) ≤ (i : Int) := by omega
  have i2 : (i : Int) < (hs.length : Int) := by omega
  have i3 : (0 : Int) ≤ (j : Int) := by omega
  have i4 : (j : Int) < (hs.length : Int) := by omega
  obtain ⟨xs, xa⟩ := x
  obtain ⟨ys, ya⟩ := y
  simp only at *
  clear hx hy hcell hat
  go_enter Try.func89, Try.ntmps89
  go_wp2_with fail
  go_quiet (fail)
  go_wp2_with fail
  go_ret
  exact ⟨by rw [← HCC.out]; rfl, below_drewN (Below.refl _ w) _⟩
end Go.Proofs.Ytankibadiomkkaa
