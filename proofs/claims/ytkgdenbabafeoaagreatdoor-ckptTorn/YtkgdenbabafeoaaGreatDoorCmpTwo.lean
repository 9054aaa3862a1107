/-
  Contract of cmp.Or over two numbers; what a compare of two structs of two numbers leaves as it was.
-/
import Derived.Test.YtkgdenbabafeoaaGreatDoorCmpInt
import Derived.Deep.RegionHeld3
namespace Go.Proofs.YtkgdenbabafeoaaGreatDoor
set_option maxRecDepth 100000
open Go.ChangeShapes Go.WideShapes Go.ChangeAt Go.RowKit

/-- The first that is not 0. -/
def or2 (a b : Int) : Int := if a ≠ 0 then a else b

set_option maxHeartbeats 1000000 in
theorem cmpOr2_any (a b : Int) (q : Nat) (w : World) (h0 : w.cell? ⟨q, 0, none⟩ = some (.int .i64 a)) (h1 : w.cell? ⟨q, 1, none⟩ = some (.int .i64 b)) :
    Calls Tryz.prog 78 #[.slice (some ⟨q, 0, none⟩) 2 2] w fun e w' => e = .returned (.int .i64 (or2 a b)) ∧ w' = w := by
  unfold or2
  by_cases ha : a ≠ 0
  · rw [if_pos ha]
    have ha' : (a != 0) = true := by simpa using ha
    go_enter Tryz.func78, Tryz.ntmps78
    go_wp2
    refine wp_loop_rounds 1 ?_
    rw [rounds_succ]
    go_wp2
    go_ret
    exact ⟨rfl, rfl⟩
  · rw [if_neg ha]
    have ha' : (a != 0) = false := by simpa using ha
    by_cases hb : b ≠ 0
    · have hb' : (b != 0) = true := by simpa using hb
      go_enter Tryz.func78, Tryz.ntmps78
      go_wp2
      refine wp_loop_rounds 2 ?_
      rw [rounds_succ]
      go_wp2
      rw [rounds_succ]
      go_wp2
      go_ret
      exact ⟨rfl, rfl⟩
    · have hb' : (b != 0) = false := by simpa using hb
      have hb0 : b = 0 := by simpa using hb
      go_enter Tryz.func78, Tryz.ntmps78
      go_wp2
      refine wp_loop_rounds 3 ?_
      rw [rounds_succ]
      go_wp2
      rw [rounds_succ]
      go_wp2
      rw [rounds_succ]
      go_wp2
      go_ret
      exact ⟨by rw [hb0]; rfl, rfl⟩

/-- The boxes of the two structs, and what was there. -/
def CmpT (W V : World) (a0 a1 b0 b1 : Int) : Prop :=
  V.cell? ⟨W.heap.size, 0, none⟩ = some (.int .i64 a0) ∧ V.cell? ⟨W.heap.size + 1, 0, none⟩ = some (.int .i64 b0) ∧ V.cell? ⟨W.heap.size, 1, none⟩ = some (.int .i64 a1) ∧ V.cell? ⟨W.heap.size + 1, 1, none⟩ = some (.int .i64 b1) ∧ W.heap.size ≤ V.heap.size ∧ Below W.heap.size W V
theorem cmpT_alloc {W V : World} {a0 a1 b0 b1 : Int} (h : CmpT W V a0 a1 b0 b1) (o : Obj) : CmpT W (V.alloc o) a0 a1 b0 b1 := by
  obtain ⟨h1, h2, h3, h4, h5, h6⟩ := h
  have c : ∀ {p : Addr} {v : Value}, V.cell? p = some v → (V.alloc o).cell? p = some v := fun {p v} hp => ((below_alloc V o).cell (p := p) (World.block_lt_of_cell? V p hp)).trans hp
  exact ⟨c h1, c h2, c h3, c h4, by simp; omega, h6.alloc h5 o⟩
theorem heap_third' (w : World) (o1 o2 : Obj) (cs : Array Value) (t : TypeId) : (((w.alloc o1).alloc o2).alloc (.cells cs t)).drew.heap[w.heap.size + 1 + 1]? = some (.cells cs t (0, 0)) := by
  have := heap_second (w.alloc o1) o2 cs t
  have e : (w.alloc o1).heap.size = w.heap.size + 1 := by simp
  rw [e] at this
  exact this
end Go.Proofs.YtkgdenbabafeoaaGreatDoor
