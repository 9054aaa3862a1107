/-
  append of one new element, and where the row lies then.
-/
import Derived.Test.YtpikfiegmnmbmaaRowNew
namespace Go.Proofs.Ytpikfiegmnmbmaa
set_option maxRecDepth 100000
open Go.ChangeShapes Go.WideShapes Go.ChangeAt Go.RowKit

/-- What an append of one new element comes to, and where the row lies. -/
theorem run_append_newL {α : Type} (K : ElK α) {w : World} (ty : TypeId) (base : Nat) (v : Value) (xs : List α) (hown : w.ownsRow base K.e K.k v xs.length (xs.flatMap K.enc))
    (B : Nat) (x : α) (cs : Array Value) (hcs : cs.toList = K.enc x) (fr : Nat × Nat) (hblk : w.heap[B]? = some (.cells cs K.e fr)) (hlen : (xs.length + 1) * K.bytes ≤ 140737488355328) (hmax : xs.length + 1 ≤ maxLen) (hbase : base ≤ w.heap.size) :
    ∃ g c w', (Builtin.append_ #[K.t, K.t] ty #[v, .slice (some ⟨B, 0, none⟩) 1 1]).run Try.prog w = .ok (.slice (some ⟨g, 0, none⟩) (xs.length + 1) c) w' ∧
      w'.ownsRow base K.e K.k (.slice (some ⟨g, 0, none⟩) (xs.length + 1) c) (xs ++ [x]).length ((xs ++ [x]).flatMap K.enc) ∧ w.grownBy w' v.ownBlock ∧ (v.ownBlock = some g ∨ g = w.heap.size) := by
  obtain ⟨i0, hi, hz0, hz1, hz2⟩ := info_parts K.hi
  obtain ⟨g, c, w', hrun, hown2, hgrow, hl, _⟩ := run_append_lies (P := Try.prog) w K.t ty base K.e i0 K.z K.k K.bytes K.ht hi hz0 hz1 hz2 K.hz K.hk0 v _ _ hown
    ⟨B, 0, none⟩ 1 1 (K.enc x) (by rw [K.hk, Nat.one_mul]) (by rw [← hcs]; exact World.news_of_block hblk) (K.h1 x) (by omega) hmax hlen hbase _ rfl
  refine ⟨g, c, w', hrun, ?_, hgrow, hl⟩
  rw [flat_snoc, List.length_append]
  exact hown2
theorem wpList_append_newL {α : Type} (K : ElK α) {w : World} {ops : Array Oper} {rest : List Oper} {o : Oper} {a : Act} {Q : Exit → Act → World → Prop} (hgd : o.guard = none) (s y : Operand)
    (ho : o.op = .call { callee := .builtin .append, args := #[s, y], argTypes := #[K.t, K.t] })
    (base : Nat) (v : Value) (xs : List α) (hs : a.eval s = v) (hown : w.ownsRow base K.e K.k v xs.length (xs.flatMap K.enc))
    (B : Nat) (x : α) (hy : a.eval y = .slice (some ⟨B, 0, none⟩) 1 1) (cs : Array Value) (hcs : cs.toList = K.enc x) (fr : Nat × Nat) (hblk : w.heap[B]? = some (.cells cs K.e fr)) (hlen : (xs.length + 1) * K.bytes ≤ 140737488355328) (hmax : xs.length + 1 ≤ maxLen) (hbase : base ≤ w.heap.size)
    (h : ∀ g c w', w'.ownsRow base K.e K.k (.slice (some ⟨g, 0, none⟩) (xs.length + 1) c) (xs ++ [x]).length ((xs ++ [x]).flatMap K.enc) → w.grownBy w' v.ownBlock → (v.ownBlock = some g ∨ g = w.heap.size) → wpList Try.prog ops Q rest (a.put o.dst (.slice (some ⟨g, 0, none⟩) (xs.length + 1) c)) w') :
    wpList Try.prog ops Q (o :: rest) a w := by
  obtain ⟨g, c, w', hrun, h1, h2, h3⟩ := run_append_newL K o.type base v xs hown B x cs hcs fr hblk hlen hmax hbase
  refine wpList_plain hgd fun K' hK => ?_
  unfold Oper.wp
  simp [execOp, ho, resolve, invoke, builtin, hs, hy, hrun, Result.andThen]
  exact hK _ _ (h g c w' h1 h2 h3)
end Go.Proofs.Ytpikfiegmnmbmaa
