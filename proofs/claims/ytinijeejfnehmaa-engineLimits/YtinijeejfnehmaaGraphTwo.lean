/-
  Two boxes of graphs, the second at work.
-/
import Derived.Test.YtinijeejfnehmaaRowAppend
import Derived.Test.YtinijeejfnehmaaCheckFace
namespace Go.Proofs.Ytinijeejfnehmaa
set_option maxRecDepth 100000
open Go.ChangeShapes Go.WideShapes Go.ChangeAt Go.RowKit

/-- Two boxes of graphs, the second at work: what is had of them in a later world. -/
theorem gbox2 {w w' : World} {o : Obj} {m : Int} {u : Value} (h : Below (w.heap.size + 2) ((w.alloc o).alloc (.cells #[.int .i64 m, u] 24)) w') :
    w'.cell? ⟨w.heap.size + 1, 0, none⟩ = some (.int .i64 m) ∧ w'.cell? ⟨w.heap.size + 1, 1, none⟩ = some u ∧ w'.frozen? ⟨w.heap.size + 1, 0, none⟩ = false ∧ w'.frozen? ⟨w.heap.size + 1, 1, none⟩ = false := by
  have hb := heap_second w o #[.int .i64 m, u] 24
  refine ⟨(h.cell (p := ⟨w.heap.size + 1, 0, none⟩) (Nat.lt_succ_self _)).trans ?_, (h.cell (p := ⟨w.heap.size + 1, 1, none⟩) (Nat.lt_succ_self _)).trans ?_, (h.frozen (p := ⟨w.heap.size + 1, 0, none⟩) (Nat.lt_succ_self _)).trans ?_, (h.frozen (p := ⟨w.heap.size + 1, 1, none⟩) (Nat.lt_succ_self _)).trans ?_⟩
  · rw [cell_of_row _ _ _ _ _ _ hb]; rfl
  · rw [cell_of_row _ _ _ _ _ _ hb]; rfl
  · simp only [World.frozen?, hb]; simp
  · simp only [World.frozen?, hb]; simp
theorem gbox1 {w w' : World} {n : Int} {v : Value} {o : Obj} (h : Below (w.heap.size + 2) ((w.alloc (.cells #[.int .i64 n, v] 24)).alloc o) w') : w'.cell? ⟨w.heap.size, 0, none⟩ = some (.int .i64 n) ∧ w'.cell? ⟨w.heap.size, 1, none⟩ = some v := by
  have h2 : Below (w.heap.size + 1) (w.alloc (.cells #[.int .i64 n, v] 24)) w' := ((Below.refl _ _).alloc (by simp) _).trans (h.mono (by omega))
  exact gbox_cells h2
/-- A graph's box behind two stores. -/
theorem gput_cells {w : World} {b : Nat} {m n : Int} {u v : Value} (h0 : w.cell? ⟨b, 0, none⟩ = some (.int .i64 m)) (h1 : w.cell? ⟨b, 1, none⟩ = some u) :
    ((w.setCell ⟨b, 0, none⟩ (.int .i64 n)).setCell ⟨b, 1, none⟩ v).cell? ⟨b, 0, none⟩ = some (.int .i64 n) ∧ ((w.setCell ⟨b, 0, none⟩ (.int .i64 n)).setCell ⟨b, 1, none⟩ v).cell? ⟨b, 1, none⟩ = some v := by
  have ne : (⟨b, 0, none⟩ : Addr) ≠ ⟨b, 1, none⟩ := fun e => by injection e with _ e; cases e
  have a0 : (w.setCell ⟨b, 0, none⟩ (.int .i64 n)).cell? ⟨b, 0, none⟩ = some (.int .i64 n) := World.cell?_setCell_same _ _ _ h0
  have a1 : (w.setCell ⟨b, 0, none⟩ (.int .i64 n)).cell? ⟨b, 1, none⟩ = some u := (World.cell?_setCell_other _ _ _ _ ne).trans h1
  exact ⟨(World.cell?_setCell_other _ _ _ _ (fun e => ne e.symm)).trans a0, World.cell?_setCell_same _ _ _ a1⟩
/-- A row of edges that a call owns outlasts stores below its base. -/
theorem RowK.setBelow {w : World} {base : Nat} {v : Value} {es : List Ed} (h : w.ownsRow base 61 3 v es.length (es.flatMap encE)) {p : Addr} (hp : p.block < base) (x : Value) : (w.setCell p x).ownsRow base 61 3 v es.length (es.flatMap encE) := ownsRow_setCell_below h hp x
end Go.Proofs.Ytinijeejfnehmaa
