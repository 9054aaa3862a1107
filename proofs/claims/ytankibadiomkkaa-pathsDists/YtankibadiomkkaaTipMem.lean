/-
  The heap of tips of lists: its box, its row; what its calls leave as it was.
-/
import Derived.Test.YtankibadiomkkaaKeptMem
import Derived.Test.YtankibadiomkkaaRowNew
namespace Go.Proofs.Ytankibadiomkkaa
set_option maxRecDepth 100000
open Go.ChangeShapes Go.WideShapes Go.ChangeAt Go.RowKit

/-- A tip of a path: its sum, and the vertex that it leads to. -/
abbrev Tp := Int × Int
def encY (h : Tp) : List Value := [.int .i64 h.2, .int .i64 h.1]
theorem encY_len (h : Tp) : (encY h).length = 2 := rfl
theorem encY_one (h : Tp) : ∀ u ∈ encY h, u.oneCell' = true := by intro u hu; simp [encY] at hu; rcases hu with rfl | rfl <;> rfl
theorem Try.infoY : (Try.prog.info? 63).map (fun i => (i.zero, i.size, i.bytes)) = some (some (.agg #[.int .i64 0, .int .i64 0]), 2, 16) := by kernel_rfl
def kY : ElK Tp := ⟨encY, 2, 65, 63, 16, .agg #[.int .i64 0, .int .i64 0], Try.underlying65, Try.infoY, rfl, by decide, encY_len, encY_one⟩

/-- The heap in the block q: these tips. -/
def TX (w : World) (q : Nat) (hs : List Tp) : Prop :=
  ∃ v, w.heap[q]? = some (.cells #[v] 65 (0, 0)) ∧ w.ownsRow (q - 1) 63 2 v hs.length (hs.flatMap encY)
theorem TX.lt {w : World} {q : Nat} {hs : List Tp} (h : TX w q hs) : q < w.heap.size := by
  obtain ⟨v, hq, _⟩ := h
  exact (Array.getElem?_eq_some_iff.1 hq).1
/-- The cells of a heap. -/
theorem TX.at {w : World} {q : Nat} {hs : List Tp} (h : TX w q hs) : ∃ a c, w.heap[q]? = some (.cells #[.slice a hs.length c] 65 (0, 0)) ∧ w.ownsRow (q - 1) 63 2 (.slice a hs.length c) hs.length (hs.flatMap encY) ∧ w.cell? ⟨q, 0, none⟩ = some (.slice a hs.length c) ∧ hs.length ≤ c ∧ c ≤ maxLen ∧
    (0 < hs.length → ∃ g, a = some ⟨g, 0, none⟩ ∧ q ≠ g ∧ q - 1 ≤ g ∧ g < w.heap.size ∧ ∀ i x, hs[i]? = some x → w.cell? ⟨g, i * 2, none⟩ = some (.int .i64 x.2) ∧ w.cell? ⟨g, i * 2 + 1, none⟩ = some (.int .i64 x.1)) := by
  obtain ⟨v, hq, ho⟩ := h
  have c0 : w.cell? ⟨q, 0, none⟩ = some v := by rw [cell_of_row _ _ _ _ _ _ hq]; rfl
  rcases own_shapeK ho with ⟨rfl, h0, _⟩ | ⟨g, cap, rfl, hg, hl, hc, hm, hcell⟩
  · refine ⟨none, 0, by rw [h0]; exact hq, by rw [h0] at ho ⊢; exact ho, by rw [h0]; exact c0, by omega, by simp [maxLen], fun hn => by omega⟩
  · refine ⟨_, cap, hq, ho, c0, hc, hm, fun _ => ⟨g, rfl, ?_, hg, hl, fun i x hx => ?_⟩⟩
    · have := own_block ho (g := g) rfl hq (by decide)
      omega
    · exact ⟨hcell _ _ (flat_at encY_len (j := 0) hx rfl), hcell _ _ (flat_at encY_len (j := 1) hx rfl)⟩
theorem TX.below {w w' : World} {q : Nat} {hs : List Tp} (h : TX w q hs) (hb : Below w.heap.size w w') : TX w' q hs := by
  have hl := h.lt
  obtain ⟨v, hq, ho⟩ := h
  exact ⟨v, by rw [hb.block q hl]; exact hq, own_below ho hb (Nat.le_refl _)⟩

/-- The block in which the row of the heap in the block q lies. -/
def rowB (w : World) (q : Nat) : Option Nat :=
  match w.heap[q]? with
  | some (.cells cs _ _) => (cs.getD 0 (Value.slice none 0 0)).ownBlock
  | _ => none
theorem rowB_at {w : World} {q : Nat} {v : Value} {t : TypeId} {fr : Nat × Nat} (h : w.heap[q]? = some (.cells #[v] t fr)) : rowB w q = v.ownBlock := by unfold rowB; rw [h]; rfl
theorem rowB_same {w w' : World} {q : Nat} (h : w'.heap[q]? = w.heap[q]?) : rowB w' q = rowB w q := by unfold rowB; rw [h]
/-- What a call on the heap of the block q leaves as it was: all but its box and its row; another row is a new one. -/
structure TK (q : Nat) (w w' : World) : Prop where
  os : w'.os = w.os
  tape : w'.tape = w.tape
  output : w'.output = w.output
  size : w.heap.size ≤ w'.heap.size
  row : q < w.heap.size → rowB w' q = rowB w q ∨ ∃ g, rowB w' q = some g ∧ w.heap.size ≤ g
  block : q < w.heap.size → ∀ k, k < w.heap.size → k ≠ q → rowB w q ≠ some k → w'.heap[k]? = w.heap[k]?
theorem TK.refl (q : Nat) (w : World) : TK q w w := ⟨rfl, rfl, rfl, Nat.le_refl _, fun _ => .inl rfl, fun _ _ _ _ _ => rfl⟩
/-- A block that is not the row's is not the row's behind the call. -/
theorem TK.apart {q k : Nat} {w w' : World} (h : TK q w w') (hq : q < w.heap.size) (hk : k < w.heap.size) (hr : rowB w q ≠ some k) : rowB w' q ≠ some k := by
  rcases h.row hq with e | ⟨g, e, hg⟩
  · rw [e]; exact hr
  · rw [e]; intro e2; injection e2 with e2; omega
theorem TK.trans {q : Nat} {a b c : World} (h : TK q a b) (k : TK q b c) : TK q a c :=
  ⟨k.os.trans h.os, k.tape.trans h.tape, k.output.trans h.output, Nat.le_trans h.size k.size, fun hq => by
    rcases k.row (Nat.lt_of_lt_of_le hq h.size) with e | ⟨g, e, hg⟩
    · rw [e]; exact h.row hq
    · exact .inr ⟨g, e, Nat.le_trans h.size hg⟩, fun hq i hi hne hr =>
    (k.block (Nat.lt_of_lt_of_le hq h.size) i (Nat.lt_of_lt_of_le hi h.size) hne (h.apart hq hi hr)).trans (h.block hq i hi hne hr)⟩
theorem TK.of {q : Nat} {w w' : World} (h : Below w.heap.size w w') : TK q w w' := ⟨h.os, h.tape, h.output, h.size, fun hq => .inl (rowB_same (h.block q hq)), fun _ k hk _ _ => h.block k hk⟩
theorem TX.row {w : World} {q : Nat} {hs : List Tp} (h : TX w q hs) {g : Nat} (hg : rowB w q = some g) : q - 1 ≤ g ∧ g < w.heap.size ∧ ∃ cs fr, w.heap[g]? = some (.cells cs 63 fr) := by
  obtain ⟨v, hq, ho⟩ := h
  rw [rowB_at hq] at hg
  refine ⟨(ho.lt g hg).1, (ho.lt g hg).2, ?_⟩
  rcases ho.2 with ⟨rfl, _⟩ | ⟨g', cap', cur, rfl, _, hgg, _⟩
  · cases hg
  · injection hg with hg
    have hg' : g' = g := hg
    subst hg'
    exact ⟨_, _, hgg⟩
theorem TK.below {q : Nat} {w w' : World} {hs : List Tp} (h : TK q w w') (hX : TX w q hs) : Below (q - 1) w w' := ⟨h.os, h.tape, h.output, h.size, fun k hk => by
  have := hX.lt
  exact h.block hX.lt k (by omega) (by omega) fun e => by have := (hX.row e).1; omega⟩
/-- Blocks of other types are as they were. -/
theorem TK.other {q k : Nat} {w w' : World} {hs : List Tp} {cs : Array Value} {t : TypeId} {fr : Nat × Nat} (h : TK q w w') (hX : TX w q hs) (hk : w.heap[k]? = some (.cells cs t fr)) (h1 : t ≠ 65) (h2 : t ≠ 63) : w'.heap[k]? = w.heap[k]? := by
  refine h.block hX.lt k (Array.getElem?_eq_some_iff.1 hk).1 (fun e => ?_) fun e => ?_
  · subst e
    obtain ⟨v, hq, _⟩ := hX
    rw [hq] at hk
    injection hk with hk
    injection hk with _ hk _
    exact h1 hk.symm
  · obtain ⟨_, _, cs', fr', hg⟩ := hX.row e
    rw [hg] at hk
    injection hk with hk
    injection hk with _ hk _
    exact h2 hk.symm
/-- Rows of other types are as they were. -/
theorem TK.own {q : Nat} {w w' : World} {hs : List Tp} {base n size : Nat} {e : TypeId} {v : Value} {xs : List Value} (h : TK q w w') (hX : TX w q hs) (ho : w.ownsRow base e size v n xs) (h1 : e ≠ 65) (h2 : e ≠ 63) : w'.ownsRow base e size v n xs := by
  refine ⟨ho.1, ?_⟩
  rcases ho.2 with hv | ⟨g, cap, cur, hv, hg, hgg, rest⟩
  · exact .inl hv
  · subst hv
    refine .inr ⟨g, cap, cur, rfl, hg, ?_, rest⟩
    rw [h.other hX hgg h1 h2]
    exact hgg
/-- Two stores: a tip. -/
def putY (w : World) (g o : Nat) (h : Tp) : World := (w.setCell ⟨g, o, none⟩ (.int .i64 h.2)).setCell ⟨g, o + 1, none⟩ (.int .i64 h.1)
theorem flatY_set : ∀ (xs : List Tp) (p : Nat) (h : Tp), p < xs.length → (xs.set p h).flatMap encY = ((xs.flatMap encY).set (p * 2) (.int .i64 h.2)).set (p * 2 + 1) (.int .i64 h.1)
  | [], p, h, hp => by simp at hp
  | x :: xs, 0, h, _ => by simp [encY]
  | x :: xs, p + 1, h, hp => by
    have := flatY_set xs p h (by simpa using hp)
    rw [List.set_cons_succ, List.flatMap_cons, this, List.flatMap_cons, show (p + 1) * 2 = p * 2 + 2 by omega]
    simp [encY]
theorem ownY_put {w : World} {base g n cap p : Nat} {xs : List Tp} (ho : w.ownsRow base 63 2 (.slice (some ⟨g, 0, none⟩) n cap) n (xs.flatMap encY)) (hp : p < xs.length) (h : Tp) :
    (putY w g (p * 2) h).ownsRow base 63 2 (.slice (some ⟨g, 0, none⟩) n cap) n ((xs.set p h).flatMap encY) := by
  rw [flatY_set xs p h hp]
  exact own_setRow (own_setRow ho)
theorem heap_putY {w : World} {g o q : Nat} {x : Tp} (h : q ≠ g) : (putY w g o x).heap[q]? = w.heap[q]? := by
  unfold putY
  rw [Below.heap_setCell _ _ _ _ (by exact h), Below.heap_setCell _ _ _ _ (by exact h)]
theorem size_putY {w : World} {g o : Nat} {x : Tp} : (putY w g o x).heap.size = w.heap.size := by unfold putY; rw [size_setCell, size_setCell]
theorem TK.put {q : Nat} {a w : World} (h : TK q a w) {g o : Nat} (x : Tp) (hg : rowB a q = some g) (hqg : q ≠ g) : TK q a (putY w g o x) :=
  ⟨h.os, h.tape, h.output, by rw [size_putY]; exact h.size, fun hq => by rw [rowB_same (heap_putY hqg)]; exact h.row hq, fun hq k hk hne hr => by
    rw [heap_putY (fun e => hr (by rw [hg, e]))]
    exact h.block hq k hk hne hr⟩
theorem TX.drew {w : World} {q : Nat} {hs : List Tp} (h : TX w q hs) : TX w.drew q hs := by
  obtain ⟨v, hq, ho⟩ := h
  exact ⟨v, hq, ho.drew⟩
theorem TK.drew {q : Nat} {a w : World} (h : TK q a w) : TK q a w.drew := ⟨h.os, h.tape, h.output, h.size, h.row, h.block⟩
/-- Two stores of tips. -/
theorem TX.swap {w : World} {q g c i j : Nat} {hs : List Tp} {x y : Tp} (hq : w.heap[q]? = some (.cells #[.slice (some ⟨g, 0, none⟩) hs.length c] 65 (0, 0))) (ho : w.ownsRow (q - 1) 63 2 (.slice (some ⟨g, 0, none⟩) hs.length c) hs.length (hs.flatMap encY)) (hqg : q ≠ g) (hi : i < hs.length) (hj : j < hs.length) :
    TX (putY (putY w g (i * 2) y) g (j * 2) x) q ((hs.set i y).set j x) ∧ TK q w (putY (putY w g (i * 2) y) g (j * 2) x) := by
  have hl : ((hs.set i y).set j x).length = hs.length := by simp
  have hr : rowB w q = some g := rowB_at hq
  refine ⟨⟨.slice (some ⟨g, 0, none⟩) hs.length c, ?_, ?_⟩, TK.put (TK.put (TK.refl q w) y hr hqg) x hr hqg⟩
  · rw [heap_putY hqg, heap_putY hqg]; exact hq
  · rw [hl]
    exact ownY_put (ownY_put ho hi y) (by simpa using hj) x
end Go.Proofs.Ytankibadiomkkaa
