/-
  A box that holds a queue.
-/
import Derived.Test.YthakibcfmbkpkaaQueueOpen
namespace Go.Proofs.Ythakibcfmbkpkaa
set_option maxRecDepth 100000
open Go.ChangeShapes Go.WideShapes Go.ChangeAt Go.RowKit

theorem boxQ_set {w : World} {q i : Nat} {cs : Array Value} {u : Value} {t : TypeId} (h : w.heap[q]? = some (.cells cs t (0, 0))) : (w.setCell ⟨q, i, none⟩ u).heap[q]? = some (.cells (cs.setIfInBounds i u) t (0, 0)) := by
  simp only [World.setCell, Array.getElem?_modify, if_true]
  rw [h]
  rfl
theorem boxQ_cells {w : World} {q : Nat} {cs : Array Value} {t : TypeId} (h : w.heap[q]? = some (.cells cs t (0, 0))) (i : Nat) : w.cell? ⟨q, i, none⟩ = cs[i]? := cell_of_row _ _ _ _ _ _ h
/-- The block q holds a queue. -/
def QX (w : World) (q : Nat) (a b c : Value) : Prop := w.heap[q]? = some (.cells #[a, b, c] 85 (0, 0))
theorem QX.cells {w : World} {q : Nat} {a b c : Value} (h : QX w q a b c) : w.cell? ⟨q, 0, none⟩ = some a ∧ w.cell? ⟨q, 1, none⟩ = some b ∧ w.cell? ⟨q, 2, none⟩ = some c := ⟨boxQ_cells h 0, boxQ_cells h 1, boxQ_cells h 2⟩
theorem QX.frozen {w : World} {q : Nat} {a b c : Value} (h : QX w q a b c) (i : Nat) : w.frozen? ⟨q, i, none⟩ = false := box_frozen h i
theorem QX.lt {w : World} {q : Nat} {a b c : Value} (h : QX w q a b c) : q < w.heap.size := (Array.getElem?_eq_some_iff.1 h).1
theorem QX.kept {S : Nat → Prop} {w w' : World} {q : Nat} {a b c : Value} (h : QX w q a b c) (hk : Kept S w w') (hs : ¬ S q) : QX w' q a b c := (hk.block q h.lt hs).trans h
theorem QX.below {w w' : World} {q B : Nat} {a b c : Value} (h : QX w q a b c) (hb : Below B w w') (hq : q < B) : QX w' q a b c := (hb.block q hq).trans h
theorem QX.new (w : World) (a b c : Value) : QX (w.alloc (.cells #[a, b, c] 85)) w.heap.size a b c := heap_alloc_new w _
theorem QX.set0 {w : World} {q : Nat} {a b c : Value} (h : QX w q a b c) (u : Value) : QX (w.setCell ⟨q, 0, none⟩ u) q u b c := boxQ_set h
theorem QX.set1 {w : World} {q : Nat} {a b c : Value} (h : QX w q a b c) (u : Value) : QX (w.setCell ⟨q, 1, none⟩ u) q a u c := boxQ_set h
theorem QX.set2 {w : World} {q : Nat} {a b c : Value} (h : QX w q a b c) (u : Value) : QX (w.setCell ⟨q, 2, none⟩ u) q a b u := boxQ_set h
theorem QX.other {w : World} {q p i : Nat} {a b c u : Value} (h : QX w q a b c) (hne : q ≠ p) : QX (w.setCell ⟨p, i, none⟩ u) q a b c := h.kept (Kept.box w p i u) (fun e => hne e)
theorem QX.drew {w : World} {q : Nat} {a b c : Value} (h : QX w q a b c) : QX w.drew q a b c := h
/-- Rows stay where a queue's box is written. -/
theorem QX.own {w : World} {q i base n size : Nat} {e : TypeId} {a b c v u : Value} {xs : List Value} (h : QX w q a b c) (ho : w.ownsRow base e size v n xs) (hne : e ≠ 85) : (w.setCell ⟨q, i, none⟩ u).ownsRow base e size v n xs :=
  (Kept.box w q i u).own ho fun _ hg => own_block ho hg h hne
theorem OwnBs.boxQ {w : World} {q i base : Nat} {a b c v u : Value} {f : List (List Int)} (hq : QX w q a b c) (h : OwnBs w base v f) : OwnBs (w.setCell ⟨q, i, none⟩ u) base v f := h.box hq (by decide) (by decide)
/-- Whole stores. -/
def putQ (w : World) (q : Nat) (a b c : Value) : World := ((w.setCell ⟨q, 0, none⟩ a).setCell ⟨q, 1, none⟩ b).setCell ⟨q, 2, none⟩ c
theorem QX.put {w : World} {q : Nat} {a b c : Value} (h : QX w q a b c) (x y z : Value) : QX (putQ w q x y z) q x y z := ((h.set0 x).set1 y).set2 z
theorem QX.putOther {w : World} {q p : Nat} {a b c x y z : Value} (h : QX w q a b c) (hne : q ≠ p) : QX (putQ w p x y z) q a b c := ((h.other hne).other hne).other hne
theorem QX.ownPut {w : World} {q base n size : Nat} {e : TypeId} {a b c v x y z : Value} {xs : List Value} (h : QX w q a b c) (ho : w.ownsRow base e size v n xs) (hne : e ≠ 85) : (putQ w q x y z).ownsRow base e size v n xs :=
  ((h.set0 x).set1 y).own ((h.set0 x).own (h.own ho hne) hne) hne
theorem OwnBs.putQ {w : World} {q base : Nat} {a b c v x y z : Value} {f : List (List Int)} (hq : QX w q a b c) (h : OwnBs w base v f) : OwnBs (putQ w q x y z) base v f := (((h.boxQ hq).boxQ (hq.set0 x)).boxQ ((hq.set0 x).set1 y))
theorem below_putQ {B : Nat} {w0 w : World} {q : Nat} (h : Below B w0 w) (hq : B ≤ q) (x y z : Value) : Below B w0 (putQ w q x y z) := ((h.setCell (p := ⟨q, 0, none⟩) hq x).setCell (p := ⟨q, 1, none⟩) hq y).setCell (p := ⟨q, 2, none⟩) hq z
/-- A box made ahead of a call, behind it. -/
theorem newQ {W V : World} (h : Below (W.drew.alloc (.cells #[.int .i64 0, .slice none 0 0, .slice none 0 0] 85)).heap.size (W.drew.alloc (.cells #[.int .i64 0, .slice none 0 0, .slice none 0 0] 85)) V) : QX V W.heap.size (.int .i64 0) (.slice none 0 0) (.slice none 0 0) := (QX.new W.drew (.int .i64 0) (.slice none 0 0) (.slice none 0 0)).below h (by simp)
theorem QX.all {w : World} {q : Nat} {a b c : Value} (h : QX w q a b c) : w.cell? ⟨q, 0, none⟩ = some a ∧ w.cell? ⟨q, 1, none⟩ = some b ∧ w.cell? ⟨q, 2, none⟩ = some c ∧ (w.frozen? ⟨q, 0, none⟩ = false ∧ w.frozen? ⟨q, 1, none⟩ = false ∧ w.frozen? ⟨q, 2, none⟩ = false) := ⟨h.cells.1, h.cells.2.1, h.cells.2.2, h.frozen 0, h.frozen 1, h.frozen 2⟩
end Go.Proofs.Ythakibcfmbkpkaa
