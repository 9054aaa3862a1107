/-
  A box that holds a graph, whose edges read.
-/
import Derived.Test.YtpoablcdfiimhabCheckFace
namespace Go.Proofs.Ytpoablcdfiimhab
open Go.ChangeShapes Go.WideShapes Go.ChangeAt Go.RowKit

structure GB (V : World) (q : Nat) (n : Int) (v : Value) (es : List Ed) : Prop where
  c0 : V.cell? ⟨q, 0, none⟩ = some (.int .i64 n)
  c1 : V.cell? ⟨q, 1, none⟩ = some v
  rd : EdR V v es
theorem GB.lt {V : World} {q : Nat} {n : Int} {v : Value} {es : List Ed} (h : GB V q n v es) : q < V.heap.size := World.block_lt_of_cell? V _ h.c0
theorem GB.go {V V' : World} {q : Nat} {n : Int} {v : Value} {es : List Ed} (h : GB V q n v es) (hb : Below V.heap.size V V') : GB V' q n v es :=
  ⟨(hb.cell (p := ⟨q, 0, none⟩) h.lt).trans h.c0, (hb.cell (p := ⟨q, 1, none⟩) h.lt).trans h.c1, h.rd.below hb (Nat.le_refl _)⟩
theorem GB.new {V : World} {v : Value} {es : List Ed} (n : Int) (h : EdR V v es) : GB (V.alloc (.cells #[.int .i64 n, v] 25)) V.heap.size n v es :=
  ⟨by simp, by simp, h.below (below_alloc _ _) (Nat.le_refl _)⟩
end Go.Proofs.Ytpoablcdfiimhab
