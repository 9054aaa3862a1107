/-
  Contract of the heap's Swap.
-/
import Derived.Test.YtankibadiomkkaaTipMem
import Derived.BigRegion
namespace Go.Proofs.Ytankibadiomkkaa
set_option maxRecDepth 100000
open Go.ChangeShapes Go.WideShapes Go.ChangeAt Go.RowKit

set_option maxHeartbeats 4000000 in
set_option maxRecDepth 100000 in
theorem ySwap_any (q : Nat) (hs : List Tp) (i j : Nat) (x y : Tp) (w : World) (h : TX w q hs) (hx : hs[i]? = some x) (hy : hs[j]? = some y) :
    Calls Try.prog 92 #[.pointer (some ⟨q, 0, none⟩), .int .i64 i, .int .i64 j] w fun e w' => e = .returned (.tuple #[]) ∧ TX w' q ((hs.set i y).set j x) ∧ TK q w w' := by
  obtain ⟨a, c, hq, ho, c0, hc, hm, hat⟩ := h.at
  unfold maxLen at hm
  have hi : i < hs.length := (List.getElem?_eq_some_iff.1 hx).1
  have hj : j < hs.length := (List.getElem?_eq_some_iff.1 hy).1
  obtain ⟨g, rfl, hqg, hqb, hgl, hcell⟩ := hat (by omega)
  obtain ⟨x1, x2⟩ := hcell _ _ hx
  obtain ⟨y1, y2⟩ := hcell _ _ hy
  have fz : ∀ k, w.frozen? ⟨g, k, none⟩ = false := fun k => frozenK ho k
  have i1 : (0 : Int) ≤ (i : Int) := by omega
  have i2 : (i : Int) < (hs.length : Int) := by omega
  have i3 : (0 : Int) ≤ (j : Int) := by omega
  have i4 : (j : Int) < (hs.length : Int) := by omega
  have HS : Hid (TX (putY (putY w g (i * 2) y) g (j * 2) x) q ((hs.set i y).set j x) ∧ TK q w (putY (putY w g (i * 2) y) g (j * 2) x)) := TX.swap hq ho hqg hi hj
  clear h hcell hat ho hq
  by_cases hne : i = j
  · subst hne
    obtain rfl : x = y := by rw [hx] at hy; injection hy
    clear hx hy
    go_enter Try.func92, Try.ntmps92
    go_wp2_with fail
    go_region
    go_end0
    refine ⟨rfl, ?_⟩
    have hh := HS.out
    unfold putY at hh
    exact ⟨hh.1.drew, hh.2.drew⟩
  · clear hx hy
    go_enter Try.func92, Try.ntmps92
    go_wp2_with fail
    go_region
    go_end0
    refine ⟨rfl, ?_⟩
    have hh := HS.out
    unfold putY at hh
    exact ⟨hh.1.drew, hh.2.drew⟩
end Go.Proofs.Ytankibadiomkkaa
