/-
  Contracts of the heap's Push and Pop.
-/
import Derived.Test.YtankibadiomkkaaTipMem
import Derived.Test.YtankibadiomkkaaRowCut
import Derived.Test.YtankibadiomkkaaRowLies
import Derived.BigRegion
namespace Go.Proofs.Ytankibadiomkkaa
set_option maxRecDepth 100000
open Go.ChangeShapes Go.WideShapes Go.ChangeAt Go.RowKit
attribute [local go_sem ↓] exec_append

theorem assertY (v : Value) (w : World) : (Instr.typeAssert (.iface 63 v) 20 63 false).run Try.prog w = .ok v w := by kernel_rfl
/-- The heap's row is another one. -/
theorem TX.store {w : World} {q : Nat} {v u : Value} {hs : List Tp} (hq : w.heap[q]? = some (.cells #[v] 65 (0, 0))) (ho : w.ownsRow (q - 1) 63 2 u hs.length (hs.flatMap encY)) : TX (w.setCell ⟨q, 0, none⟩ u) q hs :=
  ⟨u, box1_set hq, (Kept.box w q 0 u).own ho fun g hg => own_block ho hg hq (by decide)⟩

set_option maxHeartbeats 2000000 in
set_option maxRecDepth 100000 in
theorem yPush_any (q : Nat) (hs : List Tp) (x : Tp) (w : World) (h : TX w q hs) (hl : hs.length ≤ 5000) :
    Calls Try.prog 91 #[.pointer (some ⟨q, 0, none⟩), .iface 63 (.agg #[.int .i64 x.2, .int .i64 x.1])] w fun e w' => e = .returned (.tuple #[]) ∧ TX w' q (hs ++ [x]) ∧ TK q w w' := by
  obtain ⟨a, c, hq, ho, c0, hc, hm, hat⟩ := h.at
  have hql := h.lt
  unfold maxLen at hm
  have hbq : w.frozen? ⟨q, 0, none⟩ = false := box_frozen hq 0
  have hsz : (w.alloc (.cells #[.int .i64 x.2, .int .i64 x.1] 63)).drew.heap.size = w.heap.size + 1 := by simp
  obtain ⟨g, gc, w', hrun, hown, hgr, hli⟩ := run_append_newL kY (w := (w.alloc (.cells #[.int .i64 x.2, .int .i64 x.1] 63)).drew) 65 (q - 1) (.slice a hs.length c) hs ((ho.alloc _).drew) w.heap.size x #[.int .i64 x.2, .int .i64 x.1] rfl (0, 0) (heap_alloc_new w _) (by simp only [kY]; omega) (by unfold maxLen; omega) (by rw [hsz]; omega)
  obtain ⟨a1, a2, a3⟩ := appOk_of hrun
  unfold kY at a1 a2 a3 hown
  simp only at a1 a2 a3 hown
  have hrow : ∀ k, (Value.slice a hs.length c).ownBlock = some k → k ≠ q := fun k hk => own_block ho hk hq (by decide)
  have hq1 : (w.alloc (.cells #[.int .i64 x.2, .int .i64 x.1] 63)).drew.heap[q]? = some (.cells #[.slice a hs.length c] 65 (0, 0)) := ((below_alloc w _).block q hql).trans hq
  have hq2 : w'.heap[q]? = some (.cells #[.slice a hs.length c] 65 (0, 0)) := (hgr.block q (by rw [hsz]; omega) (fun e => hrow q e.symm rfl)).trans hq1
  have k0 : w'.cell? ⟨q, 0, none⟩ = some (.slice a hs.length c) := by rw [cell_of_row _ _ _ _ _ _ hq2]; rfl
  have k1 : w'.frozen? ⟨q, 0, none⟩ = false := box_frozen hq2 0
  have hll : (hs ++ [x]).length = hs.length + 1 := by simp
  have HF : Hid (TX (w'.setCell ⟨q, 0, none⟩ (.slice (some ⟨g, 0, none⟩) (hs.length + 1) gc)) q (hs ++ [x]) ∧ TK q w (w'.setCell ⟨q, 0, none⟩ (.slice (some ⟨g, 0, none⟩) (hs.length + 1) gc))) := by
    refine ⟨TX.store hq2 hown, hgr.os, hgr.tape, hgr.output, by rw [size_setCell]; have := hgr.size; rw [hsz] at this; omega, fun _ => ?_, fun _ k hk hne hr => ?_⟩
    · rw [rowB_at (box1_set hq2), rowB_at hq]
      rcases hli with e | e
      · exact .inl e.symm
      · exact .inr ⟨g, rfl, by rw [e, hsz]; omega⟩
    · rw [Below.heap_setCell _ _ _ _ (by exact hne)]
      rw [rowB_at hq] at hr
      exact (hgr.block k (by rw [hsz]; omega) fun e => hr e.symm).trans ((below_alloc w _).block k hk)
  clear hrun hli hown hgr hrow hq1 hq2 hat ho hq h hll hsz
  have ta := assertY
  go_enter Try.func91, Try.ntmps91
  go_wp2_with fail
  go_region
  go_end0
  exact ⟨rfl, HF.out.1, HF.out.2⟩

set_option maxHeartbeats 1000000 in
set_option maxRecDepth 100000 in
theorem yPop_any (q : Nat) (hs : List Tp) (x : Tp) (w : World) (h : TX w q (hs ++ [x])) :
    Calls Try.prog 90 #[.pointer (some ⟨q, 0, none⟩)] w fun e w' => e = .returned (.iface 63 (.agg #[.int .i64 x.2, .int .i64 x.1])) ∧ TX w' q hs ∧ TK q w w' := by
  obtain ⟨a, c, hq, ho, c0, hc, hm, hat⟩ := h.at
  have hql := h.lt
  have hll : (hs ++ [x]).length = hs.length + 1 := by simp
  obtain ⟨g, rfl, hqg, hqb, hgl, hcell⟩ := hat (by omega)
  obtain ⟨x1, x2⟩ := hcell hs.length x (by simp)
  rw [hll] at hq ho c0 hc
  unfold maxLen at hm
  have hbq : w.frozen? ⟨q, 0, none⟩ = false := box_frozen hq 0
  have hq1 : ∀ o, (w.alloc o).heap[q]? = some (.cells #[.slice (some ⟨g, 0, none⟩) (hs.length + 1) c] 65 (0, 0)) := fun o => ((below_alloc w o).block q hql).trans hq
  have k0 : ∀ o, (w.alloc o).cell? ⟨q, 0, none⟩ = some (.slice (some ⟨g, 0, none⟩) (hs.length + 1) c) := fun o => by rw [cell_of_row _ _ _ _ _ _ (hq1 o)]; rfl
  have k1 : ∀ o, (w.alloc o).frozen? ⟨q, 0, none⟩ = false := fun o => box_frozen (hq1 o) 0
  have ho2 : w.ownsRow (q - 1) 63 2 (.slice (some ⟨g, 0, none⟩) hs.length c) hs.length (hs.flatMap encY) := by
    have := own_preY ho (m := hs.length) (by omega)
    rw [flat_snoc] at this
    rwa [List.take_left' (flat_len encY_len hs)] at this
  have HF : Hid (∀ o, TX ((w.setCell ⟨q, 0, none⟩ (.slice (some ⟨g, 0, none⟩) hs.length c)).alloc o) q hs ∧ TK q w ((w.setCell ⟨q, 0, none⟩ (.slice (some ⟨g, 0, none⟩) hs.length c)).alloc o)) := fun o =>
    ⟨(TX.store hq ho2).below (below_alloc _ o), TK.trans (b := w.setCell ⟨q, 0, none⟩ (.slice (some ⟨g, 0, none⟩) hs.length c)) ⟨rfl, rfl, rfl, by rw [size_setCell]; exact Nat.le_refl _, fun _ => .inl (by rw [rowB_at (box1_set hq), rowB_at hq]; rfl), fun _ k _ hne _ => Below.heap_setCell _ _ _ _ (by exact hne)⟩ (TK.of (below_alloc _ o))⟩
  have i1 : IntKind.i64.wrap ((hs.length : Int) + 1 - 1) = (hs.length : Int) := by rw [Int.add_sub_cancel]; exact wrap_id64 (by omega) (by omega)
  have i2 : (0 : Int) ≤ (hs.length : Int) := by omega
  have i3 : (hs.length : Int) < (hs.length : Int) + 1 := by omega
  have i4 : hs.length ≤ c := by omega
  have i5 : (hs.length : Int) ≤ (c : Int) := by omega
  have hne : q ≠ w.heap.size := by omega
  clear ho2 hq1 hat hcell ho hq h hll hbq
  go_enter Try.func90, Try.ntmps90
  go_wp2_with fail
  go_ret
  exact ⟨rfl, (HF.out _).1, (HF.out _).2⟩

end Go.Proofs.Ytankibadiomkkaa
