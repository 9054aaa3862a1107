/-
  Contract of the law's own graphs: a copy of a graph.
-/
import Derived.Test.YtinijeejfnehmaaGraphTwo
namespace Go.Proofs.Ytinijeejfnehmaa
set_option maxRecDepth 100000
open Go.ChangeShapes Go.WideShapes Go.ChangeAt Go.RowKit
attribute [local go_sem ↓] exec_append

set_option maxHeartbeats 1000000 in
theorem graphs_own (v : Value) (es : List Ed) (n : Int) (w : World) (h : EdR w v es) (hl : es.length * 24 ≤ 140737488351232) :
    Calls Try.prog 21 #[.agg #[.int .i64 n, v]] w fun e w' => ∃ v', e = .returned (.agg #[.int .i64 n, v']) ∧ w'.ownsRow w.heap.size 61 3 v' es.length (es.flatMap encE) ∧ Below w.heap.size w w' := by
  have HR : Hid (EdR w v es) := h
  obtain ⟨a, cap, rfl, hc, hm, _, _⟩ := h
  unfold maxLen at hm
  go_enter Try.func21, Try.ntmps21
  go_wp2_with fail
  have B0 : Below (w.heap.size + 2) ((w.alloc (.cells #[.int .i64 n, .slice a es.length cap] 24)).alloc (.cells #[.int .i64 0, .slice none 0 0] 24)) ((w.alloc (.cells #[.int .i64 n, .slice a es.length cap] 24)).alloc (.cells #[.int .i64 0, .slice none 0 0] 24)).drew := (Below.refl _ _).drew
  have hsz : ((w.alloc (.cells #[.int .i64 n, .slice a es.length cap] 24)).alloc (.cells #[.int .i64 0, .slice none 0 0] 24)).drew.heap.size = w.heap.size + 2 := by simp
  have hr0 := HR.out.below (below_two B0) (Nat.le_refl _)
  obtain ⟨v', w', a1, a2, a3, hown, hbel, _⟩ := app_rowK kE 22 (w.heap.size + 2) (.slice none 0 0) ([] : List Ed) (World.ownsRow_nil _ _ _ _) _ es hr0 (by simp [kE]; omega) (by unfold maxLen; simp; omega) (by rw [hsz]; omega)
  have BB : Hid (Below (w.heap.size + 2) ((w.alloc (.cells #[.int .i64 n, .slice a es.length cap] 24)).alloc (.cells #[.int .i64 0, .slice none 0 0] 24)) w') := B0.trans hbel
  have OW : Hid (w'.ownsRow (w.heap.size + 2) 61 3 v' es.length (es.flatMap encE)) := by show World.ownsRow _ _ _ _ _ _ _; simpa [kE] using hown
  obtain ⟨k0, k1, k2, k3⟩ := gbox2 BB.out
  obtain ⟨k4, k5⟩ := gbox1 BB.out
  obtain ⟨va, vn, vc, rfl⟩ : ∃ a n c, v' = .slice a n c := by obtain ⟨a, c, e, _⟩ := RowK.own encE_len OW.out; exact ⟨_, _, _, e⟩
  unfold kE at a1 a2 a3
  simp only at a1 a2 a3
  clear B0 hsz hr0 hown hbel
  go_region
  go_wp2_with fail
  obtain ⟨r0, r1⟩ := gput_cells (n := n) (v := .slice va vn vc) k0 k1
  have hb : ∀ (p : Addr), p.block = w.heap.size + 1 → p.block < w.heap.size + 2 := fun p hp => by omega
  refine bodyPost_ret (v := .agg #[.int .i64 n, .slice va vn vc]) (by simp [results, Try.results21, go_sem, r0, r1]) rfl ⟨_, rfl, ?_, ?_⟩
  · exact own_lower (RowK.setBelow (RowK.setBelow OW.out (hb _ rfl) _) (hb _ rfl) _) (by omega)
  · exact ((below_two BB.out).setCell (Nat.le_succ _) _).setCell (Nat.le_succ _) _
theorem graphs_any (v : Value) (es : List Ed) (n : Int) (w : World) (h : EdR w v es) (hl : es.length * 24 ≤ 140737488351232) :
    Calls Try.prog 21 #[.agg #[.int .i64 n, v]] w fun e w' => ∃ v', e = .returned (.agg #[.int .i64 n, v']) ∧ EdR w' v' es ∧ Below w.heap.size w w' :=
  (graphs_own v es n w h hl).mono fun _ _ ⟨v', h1, h2, h3⟩ => ⟨v', h1, RowK.own encE_len h2, h3⟩
end Go.Proofs.Ytinijeejfnehmaa
