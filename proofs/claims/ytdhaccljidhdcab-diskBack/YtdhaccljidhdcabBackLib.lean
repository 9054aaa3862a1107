/-
  What DiskBack asks: of memory, and as plain mathematics.
-/
import Derived.Test.YtdhaccljidhdcabAppendOwn
import Derived.Test.YtdhaccljidhdcabBoxLib
namespace Go.Proofs.Ytdhaccljidhdcab
open Go.ChangeShapes Go.WideShapes Go.ChangeAt Go.RowKit

theorem heap_lt {w : World} {k : Nat} {o : Obj} (h : w.heap[k]? = some o) : k < w.heap.size := by
  rcases Nat.lt_or_ge k w.heap.size with h1 | h1
  · exact h1
  · rw [Array.getElem?_eq_none h1] at h; cases h

/-- An append of bytes to a row of the call's own, as it runs. -/
theorem run_append_reads {w : World} (ty : TypeId) (base : Nat) (v : Value) (xs : List Int) (hown : w.ownsRow base 5 1 v xs.length (xs.map (Value.int .u8)))
    (v2 : Value) (ys : List Int) (hr : Reads .u8 w v2 ys) (hlen : xs.length + ys.length ≤ 140737488355328) (hbase : base ≤ w.heap.size) :
    ∃ v' w', (Builtin.append_ #[23, 23] ty #[v, v2]).run Try.prog w = .ok v' w' ∧ w'.ownsRow base 5 1 v' (xs ++ ys).length ((xs ++ ys).map (Value.int .u8)) ∧ w.grownBy w' v.ownBlock := by
  obtain ⟨i0, hi, hz0, hz1, hz2⟩ := info_parts Try.info5
  obtain ⟨ad, cap, rfl, hc, hm, ha, hcell⟩ := hr
  cases ad with
  | none =>
    have hcap := ha rfl
    have : ys = [] := List.eq_nil_of_length_eq_zero (by omega)
    subst this
    subst hcap
    have h := run_append_owned_none (P := Try.prog) (w := w) base 23 ty 5 i0 1 Try.underlying23 hi v _ _ hown
    exact ⟨v, w, h, by simpa using hown, World.grownBy.refl _ _⟩
  | some p =>
    obtain ⟨v', w', h1, h2, h3, _⟩ := run_append_own w base 23 ty 5 i0 (.int .u8 0) 1 1 Try.underlying23 hi hz0 hz1 hz2 rfl (by decide) v _ _ hown p ys.length cap (ys.map (Value.int .u8)) (by simp)
      (fun j u hj => by
        obtain ⟨hj1, rfl⟩ := getD_map hj
        exact hcell p rfl j hj1) (bytes_oneCell _) (by unfold maxLen; omega) (by omega) hbase
    exact ⟨v', w', h1, by simpa using h2, h3⟩

/-- The same as an operation that stands under a guard. -/
theorem wpList_append_guard {w : World} {ops : Array Oper} {rest : List Oper} {o : Oper} {a : Act} {Q : Exit → Act → World → Prop} (hw : Region.wanted o (yielded ops a.tmps) = true) (s x : Operand)
    (ho : o.op = .call { callee := .builtin .append, args := #[s, x], argTypes := #[23, 23] })
    (base : Nat) (v : Value) (xs : List Int) (hs : a.eval s = v) (hown : w.ownsRow base 5 1 v xs.length (xs.map (Value.int .u8)))
    (v2 : Value) (ys : List Int) (hx : a.eval x = v2) (hr : Reads .u8 w v2 ys) (hlen : xs.length + ys.length ≤ 140737488355328) (hbase : base ≤ w.heap.size)
    (h : ∀ v' w', w'.ownsRow base 5 1 v' (xs ++ ys).length ((xs ++ ys).map (Value.int .u8)) → w.grownBy w' v.ownBlock → wpList Try.prog ops Q rest (a.put o.dst v') w') :
    wpList Try.prog ops Q (o :: rest) a w := by
  obtain ⟨v', w', hrun, h1, h2⟩ := run_append_reads o.type base v xs hown v2 ys hr hlen hbase
  refine wpList_step fun K hK => ?_
  rw [if_pos hw]
  unfold Oper.wp
  simp [execOp, ho, resolve, invoke, builtin, hs, hx, hrun, Result.andThen]
  exact hK _ _ (h v' w' h1 h2)

/-- From W to V: nothing of W has turned, and a new box b holds the disk v, which reads as q and lies above W. -/
def NewO (W V : World) (b : Nat) (v : Value) (q : List FileL) : Prop :=
  Below W.heap.size W V ∧ W.heap.size ≤ b ∧ V.heap[b]? = some (.cells #[v] 26 (0, 0)) ∧ DiskB W.heap.size V v q
theorem NewO.cell {W V : World} {b : Nat} {v : Value} {q : List FileL} (h : NewO W V b v q) : V.cell? ⟨b, 0, none⟩ = some v := by rw [cell_of_row V _ _ _ _ _ h.2.2.1]; rfl
theorem NewO.lt {W V : World} {b : Nat} {v : Value} {q : List FileL} (h : NewO W V b v q) : b < V.heap.size := World.block_lt_of_cell? V _ h.cell
theorem NewO.go {W V V' : World} {b : Nat} {v : Value} {q : List FileL} (h : NewO W V b v q) (hb : Below V.heap.size V V') : NewO W V' b v q :=
  ⟨h.1.trans (hb.mono h.1.size), h.2.1, (hb.block _ h.lt).trans h.2.2.1, h.2.2.2.below hb (Nat.le_refl _)⟩
/-- A box and its disk. -/
def HasD (V : World) (b : Nat) (v : Value) (q : List FileL) : Prop := V.heap[b]? = some (.cells #[v] 26 (0, 0)) ∧ DiskR V v q
theorem HasD.cell {V : World} {b : Nat} {v : Value} {q : List FileL} (h : HasD V b v q) : V.cell? ⟨b, 0, none⟩ = some v := by rw [cell_of_row V _ _ _ _ _ h.1]; rfl
theorem HasD.lt {V : World} {b : Nat} {v : Value} {q : List FileL} (h : HasD V b v q) : b < V.heap.size := World.block_lt_of_cell? V _ h.cell
theorem HasD.go {V V' : World} {b B : Nat} {v : Value} {q : List FileL} (h : HasD V b v q) (hb : Below B V V') (hB : V.heap.size ≤ B) : HasD V' b v q :=
  ⟨(hb.block _ (Nat.lt_of_lt_of_le h.lt hB)).trans h.1, h.2.below hb hB⟩
theorem NewO.has {W V V' : World} {b : Nat} {v : Value} {q : List FileL} {row : Option Nat} (h : NewO W V b v q) (hg : V.grownBy V' row) (hr : ∀ k, row = some k → k < W.heap.size) : HasD V' b v q :=
  ⟨(hg.block b h.lt (fun e => by have := hr b e.symm; have := h.2.1; omega)).trans h.2.2.1, h.2.2.2.grown hg hr⟩

/-- What DiskBack asks. -/
theorem back_math {fs : List FileL} {n : ByteArray} {X : List Int} (hi : Inv fs 20 600) (hn : nmB n = true) (hns : n.size ≤ maxLen) (hX : ∀ x ∈ X, 0 ≤ x ∧ x ≤ 255) (hX30 : X.length ≤ 30) :
    ∃ q OL e0, appendF fs n X = (q, 0) ∧ Inv q 21 630 ∧ 0 < q.length ∧ readF fs n = (OL, e0) ∧ (e0 = 0 ∨ e0 = 7) ∧ readF q n = (OL ++ X, 0) ∧ OL.length ≤ 100000 ∧ (∀ m, n ≠ m → readF q m = readF fs m) ∧ (∀ x ∈ OL ++ X, 0 ≤ x ∧ x ≤ 255) := by
  obtain ⟨q, e1, i1, p1, l1⟩ := append_does hi hn hns hX (by omega) (by omega)
  have r1 : readF q n = (hadD (lk fs n) ++ X, 0) := by rw [readF_lk i1.may, l1, if_pos rfl]; rfl
  have hb := readF_bytes (n := n) i1.good
  rw [r1] at hb
  have ho : ∀ m, n ≠ m → readF q m = readF fs m := fun m hm => by rw [readF_lk i1.may, readF_lk hi.may, l1, if_neg hm]
  rcases lk_cases (L := fs) n with ⟨i, hii, _, e9⟩ | ⟨_, e9⟩
  · have hd := hi.data i hii
    rw [e9] at r1 hb
    exact ⟨q, (fs.getD i noF).data, 0, e1, i1.mono (by omega) (by omega), p1, by rw [readF_lk hi.may, e9]; rfl, .inl rfl, r1, by omega, ho, hb⟩
  · rw [e9] at r1 hb
    exact ⟨q, [], 7, e1, i1.mono (by omega) (by omega), p1, by rw [readF_lk hi.may, e9]; rfl, .inr rfl, r1, by simp, ho, hb⟩
end Go.Proofs.Ytdhaccljidhdcab
