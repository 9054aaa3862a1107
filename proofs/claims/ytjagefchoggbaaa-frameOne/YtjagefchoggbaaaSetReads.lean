/-
  What a slice of bytes reads as behind one store into it; small laws beside.
-/
import Derived.Test.YtjagefchoggbaaaSame
import Derived.Lib.SlBytesConst
namespace Go.Proofs.Ytjagefchoggbaaa
open Go.ChangeShapes Go.WideShapes Go.ChangeAt Go.RowKit

theorem reads_set {w : World} {g cap i : Nat} {xs : List Int} {y : Int} (h : Reads .u8 w (.slice (some ⟨g, 0, none⟩) xs.length cap) xs) (hi : i < xs.length) : Reads .u8 (w.setCell ⟨g, i, none⟩ (.int .u8 y)) (.slice (some ⟨g, 0, none⟩) xs.length cap) (xs.set i y) := by
  obtain ⟨a, cap', hv, hc, hm, ha, hcell⟩ := h
  injection hv with h1 _ h3
  subst h1 h3
  refine ⟨_, cap, by rw [List.length_set], by rw [List.length_set]; exact hc, hm, fun hx => (by cases hx), ?_⟩
  intro x hx j hj
  injection hx with hx
  subst hx
  rw [List.length_set] at hj
  have hadd : ∀ t, (⟨g, 0, none⟩ : Addr).add t = ⟨g, t, none⟩ := fun t => by unfold Addr.add; split <;> simp_all
  have hci := hcell _ rfl i hi
  have hcj := hcell _ rfl j hj
  rw [hadd] at hci hcj
  rw [hadd]
  by_cases e : j = i
  · subst e
    rw [World.cell?_setCell_same _ _ _ hci, List.getD_eq_getElem?_getD, List.getElem?_set_self hi]
    rfl
  · rw [World.cell?_setCell_other _ _ _ _ (by intro hh; injection hh with _ hh2; exact e hh2.symm), hcj, List.getD_eq_getElem?_getD, List.getD_eq_getElem?_getD, List.getElem?_set_ne (fun hh => e hh.symm)]
theorem wrap_id64 {x : Int} (h0 : -9223372036854775808 ≤ x) (h1 : x ≤ 9223372036854775807) : IntKind.i64.wrap x = x := by
  rw [IntKind.wrap_i64]; omega
theorem below_undrew {w w' : World} (h : Below w.drew.heap.size w.drew w') : Below w.heap.size w w' := ⟨h.os, h.tape, h.output, h.size, h.block⟩
theorem frozen_own {w : World} {base g n cap : Nat} {e : TypeId} {xs : List Value} (h : w.ownsRow base e 1 (.slice (some ⟨g, 0, none⟩) n cap) n xs) (j : Nat) : w.frozen? ⟨g, j, none⟩ = false := by
  rcases h.2 with ⟨hv, _⟩ | ⟨g', cap', cur, hv, _, hgg, _⟩
  · cases hv
  · injection hv with h1 _ _
    injection h1 with h1
    injection h1 with h1
    subst h1
    simp only [World.frozen?, hgg]
    simp

theorem own_cell {w : World} {base g n cap i : Nat} {xs : List Int} (h : w.ownsRow base 5 1 (.slice (some ⟨g, 0, none⟩) n cap) xs.length (xs.map (Value.int .u8))) (hi : i < xs.length) : w.cell? ⟨g, i, none⟩ = some (.int .u8 (xs.getD i 0)) := by
  have hadd : (⟨g, 0, none⟩ : Addr).add i = ⟨g, i, none⟩ := by unfold Addr.add; split <;> simp_all
  have := h.cells rfl i (.int .u8 (xs.getD i 0)) (by rw [List.getElem?_map, List.getElem?_eq_getElem hi]; simp [List.getD_eq_getElem?_getD, List.getElem?_eq_getElem hi])
  rwa [hadd] at this
theorem reads_far {k : IntKind} {w : World} {g g' n cap i : Nat} {xs : List Int} {u : Value} (h : Reads k w (.slice (some ⟨g, 0, none⟩) n cap) xs) (hne : g ≠ g') : Reads k (w.setCell ⟨g', i, none⟩ u) (.slice (some ⟨g, 0, none⟩) n cap) xs := by
  obtain ⟨a, cap', hv, hc, hm, ha, hcell⟩ := h
  injection hv with h1 h2 h3
  subst h1 h2 h3
  refine ⟨_, cap, rfl, hc, hm, fun hx => (by cases hx), ?_⟩
  intro x hx j hj
  injection hx with hx
  subst hx
  have hadd : (⟨g, 0, none⟩ : Addr).add j = ⟨g, j, none⟩ := by unfold Addr.add; split <;> simp_all
  have hcj := hcell _ rfl j hj
  rw [hadd] at hcj ⊢
  rw [World.cell?_setCell_other _ _ _ _ (by intro hh; injection hh with hh1 _; exact hne hh1.symm), hcj]
/-- 'min(x, y, z)' of ints, as a law for the walk: whatever number it is named by. -/
theorem wpList_min3 {w : World} {ops : Array Oper} {rest : List Oper} {o : Oper} {a : Act} {Q : Exit → Act → World → Prop} (hgd : o.guard = none) (s x y : Operand)
    (ho : o.op = .call { callee := .builtin .min, args := #[s, x, y], argTypes := #[3, 3, 3] }) (i j k : Int) (hs : a.eval s = .int .i64 i) (hx : a.eval x = .int .i64 j) (hy : a.eval y = .int .i64 k)
    (r : Int) (hr : (if k < (if j < i then j else i) then k else (if j < i then j else i)) = r) (h : True → wpList Try.prog ops Q rest (a.put o.dst (.int .i64 r)) w) : wpList Try.prog ops Q (o :: rest) a w := by
  refine wpList_plain hgd fun K hK => ?_
  have hrun := run_min_int3 (P := Try.prog) (w := w) #[3, 3, 3] o.type .i64 .i64 .i64 i j k
  rw [hr] at hrun
  unfold Oper.wp
  simp [execOp, ho, resolve, invoke, builtin, hs, hx, hy, hrun, Result.andThen]
  exact hK _ _ (h trivial)
end Go.Proofs.Ytjagefchoggbaaa
