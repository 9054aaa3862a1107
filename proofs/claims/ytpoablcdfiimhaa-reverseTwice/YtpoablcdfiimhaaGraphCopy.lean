/-
  Contract of the law's own graphs: a copy of a graph.
-/
import Derived.Test.YtpoablcdfiimhaaRowAppend
import Derived.Test.YtpoablcdfiimhaaCheckFace
namespace Go.Proofs.Ytpoablcdfiimhaa
open Go.ChangeShapes Go.WideShapes Go.ChangeAt Go.RowKit
attribute [local go_sem ↓] exec_append

/-- Two boxes of graphs, the second at work: what is had of them in a later world. -/
theorem gbox2 {w w' : World} {o : Obj} {m : Int} {u : Value} (h : Below (w.heap.size + 2) ((w.alloc o).alloc (.cells #[.int .i64 m, u] 24)) w') :
    w'.cell? ⟨w.heap.size + 1, 0, none⟩ = some (.int .i64 m) ∧ w'.cell? ⟨w.heap.size + 1, 1, none⟩ = some u ∧ w'.frozen? ⟨w.heap.size + 1, 0, none⟩ = false ∧ w'.frozen? ⟨w.heap.size + 1, 1, none⟩ = false := by
  have hb := heap_second w o #[.int .i64 m, u] 24
  refine ⟨(h.cell (p := ⟨w.heap.size + 1, 0, none⟩) (Nat.lt_succ_self _)).trans ?_, (h.cell (p := ⟨w.heap.size + 1, 1, none⟩) (Nat.lt_succ_self _)).trans ?_, (h.frozen (p := ⟨w.heap.size + 1, 0, none⟩) (Nat.lt_succ_self _)).trans ?_, (h.frozen (p := ⟨w.heap.size + 1, 1, none⟩) (Nat.lt_succ_self _)).trans ?_⟩
  · rw [cell_of_row _ _ _ _ _ _ hb]; rfl
  · rw [cell_of_row _ _ _ _ _ _ hb]; rfl
  · simp only [World.frozen?, hb]; simp
  · simp only [World.frozen?, hb]; simp
theorem gbox1 {w w' : World} {n : Int} {v : Value} {o : Obj} (h : Below (w.heap.size + 2) ((w.alloc (.cells #[.int .i64 n, v] 24)).alloc o) w') : w'.cell? ⟨w.heap.size, 0, none⟩ = some (.int .i64 n) ∧ w'.cell? ⟨w.heap.size, 1, none⟩ = some v := by
  have h2 : Below (w.heap.size + 1) (w.alloc (.cells #[.int .i64 n, v] 24)) w' := ((Below.refl _ _).alloc (by simp) _).trans (h.mono (by omega))
  exact gbox_cells h2
/-- A graph's box behind two stores. -/
theorem gput_cells {w : World} {b : Nat} {m n : Int} {u v : Value} (h0 : w.cell? ⟨b, 0, none⟩ = some (.int .i64 m)) (h1 : w.cell? ⟨b, 1, none⟩ = some u) :
    ((w.setCell ⟨b, 0, none⟩ (.int .i64 n)).setCell ⟨b, 1, none⟩ v).cell? ⟨b, 0, none⟩ = some (.int .i64 n) ∧ ((w.setCell ⟨b, 0, none⟩ (.int .i64 n)).setCell ⟨b, 1, none⟩ v).cell? ⟨b, 1, none⟩ = some v := by
  have ne : (⟨b, 0, none⟩ : Addr) ≠ ⟨b, 1, none⟩ := fun e => by injection e with _ e; cases e
  have a0 : (w.setCell ⟨b, 0, none⟩ (.int .i64 n)).cell? ⟨b, 0, none⟩ = some (.int .i64 n) := World.cell?_setCell_same _ _ _ h0
  have a1 : (w.setCell ⟨b, 0, none⟩ (.int .i64 n)).cell? ⟨b, 1, none⟩ = some u := (World.cell?_setCell_other _ _ _ _ ne).trans h1
  exact ⟨(World.cell?_setCell_other _ _ _ _ (fun e => ne e.symm)).trans a0, World.cell?_setCell_same _ _ _ a1⟩
/-- A row of edges that a call owns outlasts stores below its base. -/
theorem RowK.setBelow {w : World} {base : Nat} {v : Value} {es : List Ed} (h : w.ownsRow base 47 3 v es.length (es.flatMap encE)) {p : Addr} (hp : p.block < base) (x : Value) : (w.setCell p x).ownsRow base 47 3 v es.length (es.flatMap encE) := ownsRow_setCell_below h hp x

set_option maxHeartbeats 1000000 in
theorem graphs_any (v : Value) (es : List Ed) (n : Int) (w : World) (h : EdR w v es) (hl : es.length * 24 ≤ 140737488351232) :
    Calls Try.prog 10 #[.agg #[.int .i64 n, v]] w fun e w' => ∃ v', e = .returned (.agg #[.int .i64 n, v']) ∧ EdR w' v' es ∧ Below w.heap.size w w' := by
  have HR : Hid (EdR w v es) := h
  obtain ⟨a, cap, rfl, hc, hm, _, _⟩ := h
  unfold maxLen at hm
  go_enter Try.func10, Try.ntmps10
  go_wp2_with fail
  have B0 : Below (w.heap.size + 2) ((w.alloc (.cells #[.int .i64 n, .slice a es.length cap] 24)).alloc (.cells #[.int .i64 0, .slice none 0 0] 24)) ((w.alloc (.cells #[.int .i64 n, .slice a es.length cap] 24)).alloc (.cells #[.int .i64 0, .slice none 0 0] 24)).drew := (Below.refl _ _).drew
  have hsz : ((w.alloc (.cells #[.int .i64 n, .slice a es.length cap] 24)).alloc (.cells #[.int .i64 0, .slice none 0 0] 24)).drew.heap.size = w.heap.size + 2 := by simp
  have hr0 := HR.out.below (below_two B0) (Nat.le_refl _)
  obtain ⟨v', w', a1, a2, a3, hown, hbel, _⟩ := app_rowK kE 22 (w.heap.size + 2) (.slice none 0 0) ([] : List Ed) (World.ownsRow_nil _ _ _ _) _ es hr0 (by simp [kE]; omega) (by unfold maxLen; simp; omega) (by rw [hsz]; omega)
  have BB : Hid (Below (w.heap.size + 2) ((w.alloc (.cells #[.int .i64 n, .slice a es.length cap] 24)).alloc (.cells #[.int .i64 0, .slice none 0 0] 24)) w') := B0.trans hbel
  have OW : Hid (w'.ownsRow (w.heap.size + 2) 47 3 v' es.length (es.flatMap encE)) := by show World.ownsRow _ _ _ _ _ _ _; simpa [kE] using hown
  obtain ⟨k0, k1, k2, k3⟩ := gbox2 BB.out
  obtain ⟨k4, k5⟩ := gbox1 BB.out
  obtain ⟨va, vn, vc, rfl⟩ : ∃ a n c, v' = .slice a n c := by obtain ⟨a, c, e, _⟩ := RowK.own encE_len OW.out; exact ⟨_, _, _, e⟩
  unfold kE at a1 a2 a3
  simp only at a1 a2 a3
  clear B0 hsz hr0 hown hbel
  go_region
  go_wp2_with fail
  obtain ⟨r0, r1⟩ := gput_cells (n := n) (v := .slice va vn vc) k0 k1
  have hb : ∀ (p : Addr), p.block = w.heap.size + 1 → p.block < w.heap.size + 2 := fun p hp => by omega
  refine bodyPost_ret (v := .agg #[.int .i64 n, .slice va vn vc]) (by simp [results, Try.results10, go_sem, r0, r1]) rfl ⟨_, rfl, ?_, ?_⟩
  · exact RowK.own encE_len (RowK.setBelow (RowK.setBelow OW.out (hb _ rfl) _) (hb _ rfl) _)
  · exact ((below_two BB.out).setCell (Nat.le_succ _) _).setCell (Nat.le_succ _) _
end Go.Proofs.Ytpoablcdfiimhaa
