/-
  Boxes that hold a struct.
-/
import Derived.Test.YtdeghndcglgfkaaDoorRowCore
import Derived.Test.YtdeghndcglgfkaaDoorKeptMem
namespace Go.Proofs.YtdeghndcglgfkaaDoor
set_option maxRecDepth 100000
open Go.ChangeShapes Go.WideShapes Go.ChangeAt Go.RowKit

/-- The block q holds the cells cs of a struct of the type t. -/
def BX (t : TypeId) (w : World) (q : Nat) (cs : Array Value) : Prop := w.heap[q]? = some (.cells cs t (0, 0))
section
variable {t : TypeId} {w w' : World} {q : Nat} {cs : Array Value}
theorem BX.cell (h : BX t w q cs) (i : Nat) : w.cell? ⟨q, i, none⟩ = cs[i]? := cell_of_row _ _ _ _ _ _ h
theorem BX.frozen (h : BX t w q cs) (i : Nat) : w.frozen? ⟨q, i, none⟩ = false := box_frozen h i
theorem BX.lt (h : BX t w q cs) : q < w.heap.size := (Array.getElem?_eq_some_iff.1 h).1
theorem BX.kept {S : Nat → Prop} (h : BX t w q cs) (hk : Kept S w w') (hs : ¬ S q) : BX t w' q cs := (hk.block q h.lt hs).trans h
theorem BX.below {B : Nat} (h : BX t w q cs) (hb : Below B w w') (hq : q < B) : BX t w' q cs := (hb.block q hq).trans h
theorem BX.new (t : TypeId) (w : World) (cs : Array Value) : BX t (w.alloc (.cells cs t)) w.heap.size cs := heap_alloc_new w _
theorem BX.set (h : BX t w q cs) (i : Nat) (u : Value) : BX t (w.setCell ⟨q, i, none⟩ u) q (cs.setIfInBounds i u) := by
  unfold BX at *
  simp only [World.setCell, Array.getElem?_modify, if_true]
  rw [h]
  rfl
theorem BX.other {p i : Nat} {u : Value} (h : BX t w q cs) (hne : q ≠ p) : BX t (w.setCell ⟨p, i, none⟩ u) q cs := h.kept (Kept.box w p i u) (fun e => hne e)
theorem BX.drew (h : BX t w q cs) : BX t w.drew q cs := h
/-- Rows of another element type stay where the box is written. -/
theorem BX.own {i base n size : Nat} {e : TypeId} {v u : Value} {xs : List Value} (h : BX t w q cs) (ho : w.ownsRow base e size v n xs) (hne : e ≠ t) : (w.setCell ⟨q, i, none⟩ u).ownsRow base e size v n xs :=
  (Kept.box w q i u).own ho fun _ hg => own_block ho hg h hne
theorem BX.all1 {a : Value} (h : BX t w q #[a]) : w.cell? ⟨q, 0, none⟩ = some a ∧ w.frozen? ⟨q, 0, none⟩ = false := ⟨h.cell 0, h.frozen 0⟩
theorem BX.all2 {a b : Value} (h : BX t w q #[a, b]) : w.cell? ⟨q, 0, none⟩ = some a ∧ w.cell? ⟨q, 1, none⟩ = some b ∧ (w.frozen? ⟨q, 0, none⟩ = false ∧ w.frozen? ⟨q, 1, none⟩ = false) := ⟨h.cell 0, h.cell 1, h.frozen 0, h.frozen 1⟩
theorem BX.all3 {a b c : Value} (h : BX t w q #[a, b, c]) : w.cell? ⟨q, 0, none⟩ = some a ∧ w.cell? ⟨q, 1, none⟩ = some b ∧ w.cell? ⟨q, 2, none⟩ = some c ∧ (w.frozen? ⟨q, 0, none⟩ = false ∧ w.frozen? ⟨q, 1, none⟩ = false ∧ w.frozen? ⟨q, 2, none⟩ = false) := ⟨h.cell 0, h.cell 1, h.cell 2, h.frozen 0, h.frozen 1, h.frozen 2⟩
theorem BX.all4 {a b c d : Value} (h : BX t w q #[a, b, c, d]) : w.cell? ⟨q, 0, none⟩ = some a ∧ w.cell? ⟨q, 1, none⟩ = some b ∧ w.cell? ⟨q, 2, none⟩ = some c ∧ w.cell? ⟨q, 3, none⟩ = some d := ⟨h.cell 0, h.cell 1, h.cell 2, h.cell 3⟩
end
/-- Whole stores of a struct. -/
def put2 (w : World) (q : Nat) (a b : Value) : World := (w.setCell ⟨q, 0, none⟩ a).setCell ⟨q, 1, none⟩ b
def put3 (w : World) (q : Nat) (a b c : Value) : World := ((w.setCell ⟨q, 0, none⟩ a).setCell ⟨q, 1, none⟩ b).setCell ⟨q, 2, none⟩ c
theorem BX.put2 {t : TypeId} {w : World} {q : Nat} {a b : Value} (h : BX t w q #[a, b]) (x y : Value) : BX t (put2 w q x y) q #[x, y] := (h.set 0 x).set 1 y
theorem BX.put3 {t : TypeId} {w : World} {q : Nat} {a b c : Value} (h : BX t w q #[a, b, c]) (x y z : Value) : BX t (put3 w q x y z) q #[x, y, z] := ((h.set 0 x).set 1 y).set 2 z
theorem BX.off2 {t : TypeId} {w : World} {q p : Nat} {cs : Array Value} {x y : Value} (h : BX t w q cs) (hne : q ≠ p) : BX t (Go.Proofs.YtdeghndcglgfkaaDoor.put2 w p x y) q cs := (h.other hne).other hne
theorem BX.off3 {t : TypeId} {w : World} {q p : Nat} {cs : Array Value} {x y z : Value} (h : BX t w q cs) (hne : q ≠ p) : BX t (Go.Proofs.YtdeghndcglgfkaaDoor.put3 w p x y z) q cs := ((h.other hne).other hne).other hne
theorem BX.own2 {t : TypeId} {w : World} {q base n size : Nat} {e : TypeId} {a b v x y : Value} {xs : List Value} (h : BX t w q #[a, b]) (ho : w.ownsRow base e size v n xs) (hne : e ≠ t) : (Go.Proofs.YtdeghndcglgfkaaDoor.put2 w q x y).ownsRow base e size v n xs :=
  (h.set 0 x).own (h.own ho hne) hne
theorem BX.own3 {t : TypeId} {w : World} {q base n size : Nat} {e : TypeId} {a b c v x y z : Value} {xs : List Value} (h : BX t w q #[a, b, c]) (ho : w.ownsRow base e size v n xs) (hne : e ≠ t) : (Go.Proofs.YtdeghndcglgfkaaDoor.put3 w q x y z).ownsRow base e size v n xs :=
  ((h.set 0 x).set 1 y).own ((h.set 0 x).own (h.own ho hne) hne) hne
theorem below_put2 {B : Nat} {w0 w : World} {q : Nat} (h : Below B w0 w) (hq : B ≤ q) (x y : Value) : Below B w0 (put2 w q x y) := (h.setCell (p := ⟨q, 0, none⟩) hq x).setCell (p := ⟨q, 1, none⟩) hq y
theorem below_put3 {B : Nat} {w0 w : World} {q : Nat} (h : Below B w0 w) (hq : B ≤ q) (x y z : Value) : Below B w0 (put3 w q x y z) := ((h.setCell (p := ⟨q, 0, none⟩) hq x).setCell (p := ⟨q, 1, none⟩) hq y).setCell (p := ⟨q, 2, none⟩) hq z
/-- Boxes made one behind the other. -/
theorem boxes2 (w : World) (c1 c2 : Array Value) (t1 t2 : TypeId) : ∀ W, W = (w.alloc (.cells c1 t1)).alloc (.cells c2 t2) →
    BX t1 W w.heap.size c1 ∧ BX t2 W (w.heap.size + 1) c2 ∧ Below w.heap.size w W ∧ W.heap.size ≤ w.heap.size + 2 ∧ w.heap.size + 2 ≤ W.heap.size := by
  rintro W rfl
  have b1 := below_alloc w (.cells c1 t1)
  have b2 := below_alloc (w.alloc (.cells c1 t1)) (.cells c2 t2)
  have s1 : (w.alloc (.cells c1 t1)).heap.size = w.heap.size + 1 := by simp
  have n2 := BX.new t2 (w.alloc (.cells c1 t1)) c2
  rw [s1] at n2 b2
  exact ⟨(BX.new t1 w c1).below b2 (by omega), n2, b1.trans (b2.mono (by omega)), by simp, by simp⟩
theorem boxes3 (w : World) (c1 c2 c3 : Array Value) (t1 t2 t3 : TypeId) : ∀ W, W = ((w.alloc (.cells c1 t1)).alloc (.cells c2 t2)).alloc (.cells c3 t3) →
    BX t1 W w.heap.size c1 ∧ BX t2 W (w.heap.size + 1) c2 ∧ BX t3 W (w.heap.size + 2) c3 ∧ Below w.heap.size w W ∧ W.heap.size ≤ w.heap.size + 3 ∧ w.heap.size + 3 ≤ W.heap.size := by
  rintro W rfl
  obtain ⟨h1, h2, h3, h4, h5⟩ := boxes2 w c1 c2 t1 t2 _ rfl
  have s2 : ((w.alloc (.cells c1 t1)).alloc (.cells c2 t2)).heap.size = w.heap.size + 2 := by omega
  have b3 := below_alloc ((w.alloc (.cells c1 t1)).alloc (.cells c2 t2)) (.cells c3 t3)
  have n3 := BX.new t3 ((w.alloc (.cells c1 t1)).alloc (.cells c2 t2)) c3
  rw [s2] at n3 b3
  exact ⟨h1.below b3 (by omega), h2.below b3 (by omega), n3, h3.trans (b3.mono (by omega)), by simp, by simp⟩
theorem boxes4 (w : World) (c1 c2 c3 c4 : Array Value) (t1 t2 t3 t4 : TypeId) : ∀ W, W = (((w.alloc (.cells c1 t1)).alloc (.cells c2 t2)).alloc (.cells c3 t3)).alloc (.cells c4 t4) →
    BX t1 W w.heap.size c1 ∧ BX t2 W (w.heap.size + 1) c2 ∧ BX t3 W (w.heap.size + 2) c3 ∧ BX t4 W (w.heap.size + 3) c4 ∧ Below w.heap.size w W ∧ W.heap.size ≤ w.heap.size + 4 ∧ w.heap.size + 4 ≤ W.heap.size := by
  rintro W rfl
  obtain ⟨h1, h2, h3, h4, h5, h6⟩ := boxes3 w c1 c2 c3 t1 t2 t3 _ rfl
  have s3 : (((w.alloc (.cells c1 t1)).alloc (.cells c2 t2)).alloc (.cells c3 t3)).heap.size = w.heap.size + 3 := by omega
  have b4 := below_alloc (((w.alloc (.cells c1 t1)).alloc (.cells c2 t2)).alloc (.cells c3 t3)) (.cells c4 t4)
  have n4 := BX.new t4 (((w.alloc (.cells c1 t1)).alloc (.cells c2 t2)).alloc (.cells c3 t3)) c4
  rw [s3] at n4 b4
  exact ⟨h1.below b4 (by omega), h2.below b4 (by omega), h3.below b4 (by omega), n4, h4.trans (b4.mono (by omega)), by simp, by simp⟩
theorem BX.grown {t : TypeId} {w w' : World} {q b n size : Nat} {e : TypeId} {cs : Array Value} {v : Value} {xs : List Value} (h : BX t w q cs) (ho : w.ownsRow b e size v n xs) (hne : e ≠ t) (hg : w.grownBy w' v.ownBlock) : BX t w' q cs := (hg.block q h.lt fun k => own_block ho k.symm h hne rfl).trans h
/-- A box made, and filled at once. -/
theorem below_new {w w' : World} {B : Nat} (h : Below B w w') (hB : B ≤ w.heap.size) (o : Obj) : Below B w (w'.alloc o) := h.alloc (Nat.le_trans hB h.size) o
end Go.Proofs.YtdeghndcglgfkaaDoor
