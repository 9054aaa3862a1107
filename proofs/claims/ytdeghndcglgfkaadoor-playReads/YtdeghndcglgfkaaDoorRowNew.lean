/-
  append on rows of structs: of a slice that reads, and of one new element.
-/
import Derived.Test.YtdeghndcglgfkaaDoorRowCore
import Derived.Test.YtdeghndcglgfkaaDoorAppendRun
import Derived.Deep.AppendLies
namespace Go.Proofs.YtdeghndcglgfkaaDoor
open Go.ChangeShapes Go.WideShapes Go.ChangeAt Go.RowKit
set_option maxRecDepth 100000

/-- An element type of k cells, and its slices' type. -/
structure ElK (α : Type) where
  enc : α → List Value
  k : Nat
  t : TypeId
  e : TypeId
  bytes : Nat
  z : Value
  ht : Tryd.prog.underlying t = some (.slice e)
  hi : (Tryd.prog.info? e).map (fun i => (i.zero, i.size, i.bytes)) = some (some z, k, bytes)
  hz : z.cells.size = k
  hk0 : 0 < k
  hk : ∀ x, (enc x).length = k
  h1 : ∀ x, ∀ u ∈ enc x, u.oneCell' = true

theorem flat_one {α : Type} (K : ElK α) (xs : List α) : ∀ u ∈ xs.flatMap K.enc, u.oneCell' = true := by
  intro u hu
  obtain ⟨x, _, hx⟩ := List.mem_flatMap.1 hu
  exact K.h1 x u hx

/-- What an append of a slice that reads comes to. -/
theorem run_append_rowK {α : Type} (K : ElK α) {w : World} (ty : TypeId) (base : Nat) (v : Value) (xs : List α) (hown : w.ownsRow base K.e K.k v xs.length (xs.flatMap K.enc))
    (v2 : Value) (ys : List α) (hr : RowK K.enc K.k w v2 ys) (hlen : (xs.length + ys.length) * K.bytes ≤ 140737488355328) (hmax : xs.length + ys.length ≤ maxLen) (hbase : base ≤ w.heap.size) :
    ∃ v' w', (Builtin.append_ #[K.t, K.t] ty #[v, v2]).run Tryd.prog w = .ok v' w' ∧ w'.ownsRow base K.e K.k v' (xs ++ ys).length ((xs ++ ys).flatMap K.enc) ∧ w.grownBy w' v.ownBlock := by
  obtain ⟨i0, hi, hz0, hz1, hz2⟩ := info_parts K.hi
  obtain ⟨ad, cap, rfl, hc, hm, ha, hel⟩ := hr
  cases ad with
  | none =>
    have hcap := ha rfl
    have : ys = [] := List.eq_nil_of_length_eq_zero (by omega)
    subst this
    subst hcap
    have h := run_append_owned_none (P := Tryd.prog) (w := w) base K.t ty K.e i0 K.k K.ht hi v _ _ hown
    exact ⟨v, w, h, by simpa using hown, World.grownBy.refl _ _⟩
  | some p =>
    obtain ⟨v', w', h1, h2, h3, _⟩ := run_append_own w base K.t ty K.e i0 K.z K.k K.bytes K.ht hi hz0 hz1 hz2 K.hz K.hk0 v _ _ hown p ys.length cap (ys.flatMap K.enc) (flat_len K.hk ys)
      (fun j u hj => by
        have hj2 : j < ys.length * K.k := by
          rw [← flat_len K.hk ys]
          rcases Nat.lt_or_ge j (ys.flatMap K.enc).length with h' | h'
          · exact h'
          · rw [List.getElem?_eq_none h'] at hj; cases hj
        have hn : 0 < ys.length := by
          rcases Nat.eq_zero_or_pos ys.length with h | h
          · rw [h] at hj2; omega
          · exact h
        obtain ⟨b, off, e, lt, hv⟩ := hel hn
        injection e with e
        subst e
        have hi1 : j / K.k < ys.length := (Nat.div_lt_iff_lt_mul K.hk0).2 hj2
        have hm1 : j % K.k < K.k := Nat.mod_lt _ K.hk0
        have hx : ys[j / K.k]? = some ys[j / K.k] := List.getElem?_eq_getElem hi1
        have hm2 : j % K.k < (K.enc ys[j / K.k]).length := by rw [K.hk]; exact hm1
        have hu : (K.enc ys[j / K.k])[j % K.k]? = some (K.enc ys[j / K.k])[j % K.k] := List.getElem?_eq_getElem hm2
        have hj3 := flat_at K.hk hx hu
        rw [show j / K.k * K.k + j % K.k = j by rw [Nat.mul_comm]; exact Nat.div_add_mod j K.k] at hj3
        rw [hj] at hj3
        injection hj3 with hj3
        have := hv _ _ hx _ _ hu
        rw [← hj3] at this
        rw [addr_plus]
        have e2 : off + j / K.k * K.k + j % K.k = off + j := by rw [Nat.add_assoc, Nat.mul_comm, Nat.div_add_mod]
        rw [e2] at this
        exact this) (flat_one K ys) hmax hlen hbase
    exact ⟨v', w', h1, by simpa using h2, h3⟩

/-- What an append of one new element comes to; the element lies in the block B. -/
theorem run_append_newK {α : Type} (K : ElK α) {w : World} (ty : TypeId) (base : Nat) (v : Value) (xs : List α) (hown : w.ownsRow base K.e K.k v xs.length (xs.flatMap K.enc))
    (B : Nat) (x : α) (cs : Array Value) (hcs : cs.toList = K.enc x) (fr : Nat × Nat) (hblk : w.heap[B]? = some (.cells cs K.e fr)) (hlen : (xs.length + 1) * K.bytes ≤ 140737488355328) (hmax : xs.length + 1 ≤ maxLen) (hbase : base ≤ w.heap.size) :
    ∃ g c w', (Builtin.append_ #[K.t, K.t] ty #[v, .slice (some ⟨B, 0, none⟩) 1 1]).run Tryd.prog w = .ok (.slice (some ⟨g, 0, none⟩) (xs.length + 1) c) w' ∧
      w'.ownsRow base K.e K.k (.slice (some ⟨g, 0, none⟩) (xs.length + 1) c) (xs ++ [x]).length ((xs ++ [x]).flatMap K.enc) ∧ w.grownBy w' v.ownBlock := by
  obtain ⟨i0, hi, hz0, hz1, hz2⟩ := info_parts K.hi
  obtain ⟨g, c, w', hrun, hown2, hgrow, _, _⟩ := run_append_lies (P := Tryd.prog) w K.t ty base K.e i0 K.z K.k K.bytes K.ht hi hz0 hz1 hz2 K.hz K.hk0 v _ _ hown
    ⟨B, 0, none⟩ 1 1 (K.enc x) (by rw [K.hk, Nat.one_mul]) (by rw [← hcs]; exact World.news_of_block hblk) (K.h1 x) (by omega) hmax hlen hbase _ rfl
  refine ⟨g, c, w', hrun, ?_, hgrow⟩
  rw [flat_snoc, List.length_append]
  exact hown2

/-- append(s, x) as a law for the walk. -/
theorem wpList_append_newK {α : Type} (K : ElK α) {w : World} {ops : Array Oper} {rest : List Oper} {o : Oper} {a : Act} {Q : Exit → Act → World → Prop} (hgd : o.guard = none) (s y : Operand)
    (ho : o.op = .call { callee := .builtin .append, args := #[s, y], argTypes := #[K.t, K.t] })
    (base : Nat) (v : Value) (xs : List α) (hs : a.eval s = v) (hown : w.ownsRow base K.e K.k v xs.length (xs.flatMap K.enc))
    (B : Nat) (x : α) (hy : a.eval y = .slice (some ⟨B, 0, none⟩) 1 1) (cs : Array Value) (hcs : cs.toList = K.enc x) (fr : Nat × Nat) (hblk : w.heap[B]? = some (.cells cs K.e fr)) (hlen : (xs.length + 1) * K.bytes ≤ 140737488355328) (hmax : xs.length + 1 ≤ maxLen) (hbase : base ≤ w.heap.size)
    (h : ∀ g c w', w'.ownsRow base K.e K.k (.slice (some ⟨g, 0, none⟩) (xs.length + 1) c) (xs ++ [x]).length ((xs ++ [x]).flatMap K.enc) → Below base w w' → w.grownBy w' v.ownBlock → wpList Tryd.prog ops Q rest (a.put o.dst (.slice (some ⟨g, 0, none⟩) (xs.length + 1) c)) w') :
    wpList Tryd.prog ops Q (o :: rest) a w := by
  obtain ⟨g, c, w', hrun, h1, h2⟩ := run_append_newK K o.type base v xs hown B x cs hcs fr hblk hlen hmax hbase
  refine wpList_plain hgd fun K' hK => ?_
  unfold Oper.wp
  simp [execOp, ho, resolve, invoke, builtin, hs, hy, hrun, Result.andThen]
  exact hK _ _ (h g c w' h1 ((Below.refl base w).grown h2 hbase (fun j hj => (hown.lt j hj).1)) h2)
/-- append(s, t...) of a slice that reads, as a law for the walk. -/
theorem wpList_append_rowK {α : Type} (K : ElK α) {w : World} {ops : Array Oper} {rest : List Oper} {o : Oper} {a : Act} {Q : Exit → Act → World → Prop} (hgd : o.guard = none) (s y : Operand)
    (ho : o.op = .call { callee := .builtin .append, args := #[s, y], argTypes := #[K.t, K.t] })
    (base : Nat) (v : Value) (xs : List α) (hs : a.eval s = v) (hown : w.ownsRow base K.e K.k v xs.length (xs.flatMap K.enc))
    (v2 : Value) (ys : List α) (hy : a.eval y = v2) (hr : RowK K.enc K.k w v2 ys) (hlen : (xs.length + ys.length) * K.bytes ≤ 140737488355328) (hmax : xs.length + ys.length ≤ maxLen) (hbase : base ≤ w.heap.size)
    (h : ∀ v' w', w'.ownsRow base K.e K.k v' (xs ++ ys).length ((xs ++ ys).flatMap K.enc) → Below base w w' → w.grownBy w' v.ownBlock → wpList Tryd.prog ops Q rest (a.put o.dst v') w') :
    wpList Tryd.prog ops Q (o :: rest) a w := by
  obtain ⟨v', w', hrun, h1, h2⟩ := run_append_rowK K o.type base v xs hown v2 ys hr hlen hmax hbase
  refine wpList_plain hgd fun K' hK => ?_
  unfold Oper.wp
  simp [execOp, ho, resolve, invoke, builtin, hs, hy, hrun, Result.andThen]
  exact hK _ _ (h v' w' h1 ((Below.refl base w).grown h2 hbase (fun j hj => (hown.lt j hj).1)) h2)
/-- The same in a region that draws its order: what is had of it ahead. -/
theorem app_newK {α : Type} (K : ElK α) {w : World} (ty : TypeId) (base : Nat) (v : Value) (xs : List α) (hown : w.ownsRow base K.e K.k v xs.length (xs.flatMap K.enc))
    (B : Nat) (x : α) (cs : Array Value) (hcs : cs.toList = K.enc x) (fr : Nat × Nat) (hblk : w.heap[B]? = some (.cells cs K.e fr)) (hlen : (xs.length + 1) * K.bytes ≤ 140737488355328) (hmax : xs.length + 1 ≤ maxLen) (hbase : base ≤ w.heap.size) :
    ∃ g c w', AppOk Tryd.prog #[K.t, K.t] ty #[v, .slice (some ⟨B, 0, none⟩) 1 1] w ∧ appV Tryd.prog #[K.t, K.t] ty #[v, .slice (some ⟨B, 0, none⟩) 1 1] w = .slice (some ⟨g, 0, none⟩) (xs.length + 1) c ∧ appW Tryd.prog #[K.t, K.t] ty #[v, .slice (some ⟨B, 0, none⟩) 1 1] w = w' ∧
      w'.ownsRow base K.e K.k (.slice (some ⟨g, 0, none⟩) (xs.length + 1) c) (xs ++ [x]).length ((xs ++ [x]).flatMap K.enc) ∧ Below base w w' ∧ w.grownBy w' v.ownBlock := by
  obtain ⟨g, c, w', hrun, h1, h2⟩ := run_append_newK K ty base v xs hown B x cs hcs fr hblk hlen hmax hbase
  obtain ⟨a1, a2, a3⟩ := appOk_of hrun
  exact ⟨g, c, w', a1, a2, a3, h1, (Below.refl base w).grown h2 hbase (fun j hj => (hown.lt j hj).1), h2⟩
theorem app_rowK {α : Type} (K : ElK α) {w : World} (ty : TypeId) (base : Nat) (v : Value) (xs : List α) (hown : w.ownsRow base K.e K.k v xs.length (xs.flatMap K.enc))
    (v2 : Value) (ys : List α) (hr : RowK K.enc K.k w v2 ys) (hlen : (xs.length + ys.length) * K.bytes ≤ 140737488355328) (hmax : xs.length + ys.length ≤ maxLen) (hbase : base ≤ w.heap.size) :
    ∃ v' w', AppOk Tryd.prog #[K.t, K.t] ty #[v, v2] w ∧ appV Tryd.prog #[K.t, K.t] ty #[v, v2] w = v' ∧ appW Tryd.prog #[K.t, K.t] ty #[v, v2] w = w' ∧
      w'.ownsRow base K.e K.k v' (xs ++ ys).length ((xs ++ ys).flatMap K.enc) ∧ Below base w w' ∧ w.grownBy w' v.ownBlock := by
  obtain ⟨v', w', hrun, h1, h2⟩ := run_append_rowK K ty base v xs hown v2 ys hr hlen hmax hbase
  obtain ⟨a1, a2, a3⟩ := appOk_of hrun
  exact ⟨v', w', a1, a2, a3, h1, (Below.refl base w).grown h2 hbase (fun j hj => (hown.lt j hj).1), h2⟩

end Go.Proofs.YtdeghndcglgfkaaDoor
