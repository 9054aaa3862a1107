/-
  Slices of mail: what they read as; append on rows of mail.
-/
import Derived.Test.YtkgdenbabafeoaaGreatDoorRowNew
import Derived.Test.YtkgdenbabafeoaaGreatDoorTwoMem
namespace Go.Proofs.YtkgdenbabafeoaaGreatDoor
set_option maxRecDepth 100000
open Go.ChangeShapes Go.WideShapes Go.ChangeAt Go.RowKit

theorem Tryz.infoM : (Tryz.prog.info? 62).map (fun i => (i.zero, i.size, i.bytes)) = some (some (.agg #[.int .i64 0, .int .i64 0]), 2, 16) := by kernel_rfl
def kM : ElK Ml := ⟨encM, 2, 26, 62, 16, .agg #[.int .i64 0, .int .i64 0], Tryz.underlying26, Tryz.infoM, rfl, by decide, encM_len, encM_one⟩

/-- The two cells of a piece of mail in a row of the call's own. -/
theorem ownM_at {w : World} {base g n cap : Nat} {xs : List Ml} (h : w.ownsRow base 62 2 (.slice (some ⟨g, 0, none⟩) n cap) n (xs.flatMap encM)) {i : Nat} {x : Ml} (hx : xs[i]? = some x) :
    w.cell? ⟨g, i * 2, none⟩ = some (.int .i64 x.1) ∧ w.cell? ⟨g, i * 2 + 1, none⟩ = some (.int .i64 x.2) := by
  have c : ∀ j u, (encM x)[j]? = some u → w.cell? ⟨g, i * 2 + j, none⟩ = some u := fun j u hu => by
    have := h.cells rfl _ _ (flat_at encM_len hx hu)
    rwa [addr_add] at this
  exact ⟨c 0 _ rfl, c 1 _ rfl⟩
theorem flatM_set : ∀ (xs : List Ml) (p : Nat) (e : Ml), p < xs.length → (xs.set p e).flatMap encM = ((xs.flatMap encM).set (p * 2) (.int .i64 e.1)).set (p * 2 + 1) (.int .i64 e.2)
  | [], p, e, h => by simp at h
  | x :: xs, 0, e, _ => by simp [encM]
  | x :: xs, p + 1, e, h => by
    have := flatM_set xs p e (by simpa using h)
    rw [List.set_cons_succ, List.flatMap_cons, this, List.flatMap_cons, show (p + 1) * 2 = p * 2 + 2 by omega]
    simp [encM]
/-- Two stores: a piece of mail. -/
def putM (w : World) (g o : Nat) (e : Ml) : World := (w.setCell ⟨g, o, none⟩ (.int .i64 e.1)).setCell ⟨g, o + 1, none⟩ (.int .i64 e.2)
theorem ownM_put {w : World} {base g n cap p : Nat} {xs : List Ml} (h : w.ownsRow base 62 2 (.slice (some ⟨g, 0, none⟩) n cap) n (xs.flatMap encM)) (hp : p < xs.length) (e : Ml) :
    (putM w g (p * 2) e).ownsRow base 62 2 (.slice (some ⟨g, 0, none⟩) n cap) n ((xs.set p e).flatMap encM) := by
  rw [flatM_set xs p e hp]
  exact own_setRow (own_setRow h)
theorem below_putM {w w' : World} {B g o : Nat} (h : Below B w w') (hg : B ≤ g) (e : Ml) : Below B w (putM w' g o e) := (h.setCell (p := ⟨g, o, none⟩) hg _).setCell (p := ⟨g, o + 1, none⟩) hg _
theorem putM_cell {w : World} {g o b j : Nat} {e : Ml} (hne : b ≠ g) : (putM w g o e).cell? ⟨b, j, none⟩ = w.cell? ⟨b, j, none⟩ := by
  unfold putM
  rw [World.cell?_setCell_other _ _ _ _ (fun h => hne (by injection h with h; exact h.symm)), World.cell?_setCell_other _ _ _ _ (fun h => hne (by injection h with h; exact h.symm))]
theorem cellM_far {w : World} {g i j : Nat} {v : Value} (h : i ≠ j) : (w.setCell ⟨g, i, none⟩ v).cell? ⟨g, j, none⟩ = w.cell? ⟨g, j, none⟩ := World.cell?_setCell_other _ _ _ _ (fun e => h (by injection e))
theorem setM_mid {A B : List Ml} {x y : Ml} : (A ++ x :: B).set A.length y = A ++ y :: B := by simp
theorem getM_mid {A B : List Ml} {x : Ml} : (A ++ x :: B)[A.length]? = some x := by simp
theorem MlR.ownd {w : World} {base : Nat} {v : Value} {es : List Ml} (h : w.ownsRow base 62 2 v es.length (es.flatMap encM)) : MlR w v es := RowK.own encM_len h
end Go.Proofs.YtkgdenbabafeoaaGreatDoor
