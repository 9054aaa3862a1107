/-
  A store of an edge into a row of the call's own.
-/
import Derived.Test.YtpoablcdfiimhaaRowMem
namespace Go.Proofs.Ytpoablcdfiimhaa
open Go.ChangeShapes Go.WideShapes Go.ChangeAt Go.RowKit

theorem flat_set : ∀ (xs : List Ed) (p : Nat) (e : Ed), p < xs.length → (xs.set p e).flatMap encE = (((xs.flatMap encE).set (p * 3) (.int .i64 e.1)).set (p * 3 + 1) (.int .i64 e.2.1)).set (p * 3 + 2) (.int .i64 e.2.2)
  | [], p, e, h => by simp at h
  | x :: xs, 0, e, _ => by simp [encE]
  | x :: xs, p + 1, e, h => by
    have := flat_set xs p e (by simpa using h)
    rw [List.set_cons_succ, List.flatMap_cons, this, List.flatMap_cons, show (p + 1) * 3 = p * 3 + 3 by omega]
    simp [encE]

/-- Three stores: an edge. -/
def putE (w : World) (g o : Nat) (e : Ed) : World := ((w.setCell ⟨g, o, none⟩ (.int .i64 e.1)).setCell ⟨g, o + 1, none⟩ (.int .i64 e.2.1)).setCell ⟨g, o + 2, none⟩ (.int .i64 e.2.2)
theorem own_put {w : World} {base g n cap p : Nat} {xs : List Ed} (h : w.ownsRow base 47 3 (.slice (some ⟨g, 0, none⟩) n cap) n (xs.flatMap encE)) (hp : p < xs.length) (e : Ed) :
    (putE w g (p * 3) e).ownsRow base 47 3 (.slice (some ⟨g, 0, none⟩) n cap) n ((xs.set p e).flatMap encE) := by
  rw [flat_set xs p e hp]
  exact own_setRow (own_setRow (own_setRow h))
theorem below_put {w w' : World} {B g o : Nat} (h : Below B w w') (hg : B ≤ g) (e : Ed) : Below B w (putE w' g o e) := ((h.setCell (p := ⟨g, o, none⟩) hg _).setCell (p := ⟨g, o + 1, none⟩) hg _).setCell (p := ⟨g, o + 2, none⟩) hg _
theorem put_cell {w : World} {g o b j : Nat} {e : Ed} (hne : b ≠ g) : (putE w g o e).cell? ⟨b, j, none⟩ = w.cell? ⟨b, j, none⟩ := by
  unfold putE
  rw [World.cell?_setCell_other _ _ _ _ (fun h => hne (by injection h with h; exact h.symm)), World.cell?_setCell_other _ _ _ _ (fun h => hne (by injection h with h; exact h.symm)), World.cell?_setCell_other _ _ _ _ (fun h => hne (by injection h with h; exact h.symm))]
theorem cell_far {w : World} {g i j : Nat} {v : Value} (h : i ≠ j) : (w.setCell ⟨g, i, none⟩ v).cell? ⟨g, j, none⟩ = w.cell? ⟨g, j, none⟩ := World.cell?_setCell_other _ _ _ _ (fun e => h (by injection e))
theorem put_far {w : World} {g o j : Nat} {e : Ed} (h : j < o ∨ o + 2 < j) : (putE w g o e).cell? ⟨g, j, none⟩ = w.cell? ⟨g, j, none⟩ := by
  unfold putE
  rw [cell_far (by omega), cell_far (by omega), cell_far (by omega)]
theorem put_size (w : World) (g o : Nat) (e : Ed) : (putE w g o e).heap.size = w.heap.size := by unfold putE; rw [size_setCell, size_setCell, size_setCell]
/-- The three cells of an edge in a row of the call's own. -/
theorem own_at {w : World} {base g n cap : Nat} {xs : List Ed} (h : w.ownsRow base 47 3 (.slice (some ⟨g, 0, none⟩) n cap) n (xs.flatMap encE)) {i : Nat} {x : Ed} (hx : xs[i]? = some x) :
    w.cell? ⟨g, i * 3, none⟩ = some (.int .i64 x.1) ∧ w.cell? ⟨g, i * 3 + 1, none⟩ = some (.int .i64 x.2.1) ∧ w.cell? ⟨g, i * 3 + 2, none⟩ = some (.int .i64 x.2.2) := by
  have c : ∀ j u, (encE x)[j]? = some u → w.cell? ⟨g, i * 3 + j, none⟩ = some u := fun j u hu => by
    have := h.cells rfl _ _ (flat_at encE_len hx hu)
    rwa [addr_add] at this
  exact ⟨c 0 _ rfl, c 1 _ rfl, c 2 _ rfl⟩
theorem set_mid {A B : List Ed} {x y : Ed} : (A ++ x :: B).set A.length y = A ++ y :: B := by simp
theorem get_mid {A B : List Ed} {x : Ed} : (A ++ x :: B)[A.length]? = some x := by simp
end Go.Proofs.Ytpoablcdfiimhaa
