/-
  What slices read as, and what a call owns; laws for the walk on append. No function of the program is named here.
-/
import Derived.Test.YtdeghndcglgfkaaDoorRows
import Derived.WalkKit
import Derived.ProofKit
import Derived.OpenShut
import Derived.WalkSpells
import Derived.WalkLawsBesides
import Derived.Laws.BytesArg
import Derived.Laws.AppendOwnNone
import Derived.Lib.Walk
import Derived.Deep.AppendLies
namespace Go.Proofs.YtdeghndcglgfkaaDoor
set_option maxRecDepth 100000
open Go.ChangeShapes Go.WideShapes Go.ChangeAt Go.RowKit

theorem own_push {w : World} {base : Nat} {v : Value} {pre : List Int} {x : Int} (h : w.ownsRow base 5 1 v (pre.length + 1) (pre.map (Value.int .u8) ++ [.int .u8 x])) :
    w.ownsRow base 5 1 v (pre ++ [x]).length ((pre ++ [x]).map (Value.int .u8)) := by simpa using h
/-- A slice of one new block owns it. -/
theorem own_new (w : World) (base : Nat) (hb : base ≤ w.heap.size) (x : Int) : (w.alloc (.cells #[.int .u8 x] 5)).ownsRow base 5 1 (.slice (some ⟨w.heap.size, 0, none⟩) 1 1) ([x] : List Int).length (([x] : List Int).map (Value.int .u8)) :=
  ⟨by simp, .inr ⟨w.heap.size, 1, #[.int .u8 x], rfl, hb, heap_alloc_new w _, by simp, by simp [maxLen], by simp, by simp⟩⟩
/-- What is owned in blocks below B is owned still where nothing below B has turned. -/
theorem own_below {w w' : World} {B base : Nat} {e : TypeId} {size n : Nat} {v : Value} {xs : List Value} (h : w.ownsRow base e size v n xs) (hb : Below B w w') (hB : w.heap.size ≤ B) : w'.ownsRow base e size v n xs := by
  refine ⟨h.1, ?_⟩
  rcases h.2 with hn | ⟨g, cap, cur, rfl, hg, hgg, rest⟩
  · exact .inl hn
  · refine .inr ⟨g, cap, cur, rfl, hg, ?_, rest⟩
    rw [hb.block g (by have := (Array.getElem?_eq_some_iff.1 hgg).1; omega)]
    exact hgg
/-- The shape of an owned slice that is not empty. -/
theorem own_shape {w : World} {base : Nat} {e : TypeId} {n : Nat} {v : Value} {xs : List Value} (h : w.ownsRow base e 1 v n xs) (hn : 0 < n) :
    ∃ g cap, v = .slice (some ⟨g, 0, none⟩) n cap ∧ base ≤ g ∧ g < w.heap.size ∧ n ≤ cap ∧ cap ≤ maxLen ∧ ∀ j u, xs[j]? = some u → w.cell? ((⟨g, 0, none⟩ : Addr).add j) = some u := by
  rcases h.2 with ⟨_, h0⟩ | ⟨g, cap, cur, hv, hg, hgg, hc, hm, _⟩
  · omega
  · subst hv
    exact ⟨g, cap, rfl, hg, (Array.getElem?_eq_some_iff.1 hgg).1, hc, hm, h.cells rfl⟩
/-- An owned slice is nil and empty, or begins at the head of a block. -/
theorem own_cases {w : World} {base : Nat} {e : TypeId} {n : Nat} {v : Value} {xs : List Value} (h : w.ownsRow base e 1 v n xs) :
    (v = .slice none 0 0 ∧ n = 0 ∧ xs = []) ∨ ∃ g cap, v = .slice (some ⟨g, 0, none⟩) n cap ∧ base ≤ g ∧ g < w.heap.size ∧ n ≤ cap ∧ cap ≤ maxLen ∧ ∀ j u, xs[j]? = some u → w.cell? ((⟨g, 0, none⟩ : Addr).add j) = some u := by
  rcases h.2 with ⟨hv, h0⟩ | ⟨g, cap, cur, hv, hg, hgg, hc, hm, _⟩
  · exact .inl ⟨hv, h0, List.eq_nil_of_length_eq_zero (by rw [h.1, h0, Nat.zero_mul])⟩
  · subst hv
    exact .inr ⟨g, cap, rfl, hg, (Array.getElem?_eq_some_iff.1 hgg).1, hc, hm, h.cells rfl⟩
theorem bytes_oneCell (l : List Int) : ∀ u ∈ l.map (Value.int .u8), u.oneCell' = true := by
  intro u hu
  obtain ⟨x, _, rfl⟩ := List.mem_map.1 hu
  rfl

theorem Tryd.info5 : (Tryd.prog.info? 5).map (fun i => (i.zero, i.size, i.bytes)) = some (some (.int .u8 0), 1, 1) := by kernel_rfl

theorem own_lower {w : World} {B B' : Nat} {e : TypeId} {size n : Nat} {v : Value} {xs : List Value} (h : w.ownsRow B e size v n xs) (hB : B' ≤ B) : w.ownsRow B' e size v n xs := by
  refine ⟨h.1, ?_⟩
  rcases h.2 with h1 | ⟨g, cap, cur, h1, h2, h3⟩
  · exact .inl h1
  · exact .inr ⟨g, cap, cur, h1, Nat.le_trans hB h2, h3⟩
theorem ret_bool {a b : Bool} (h : a = b) : Ending.returned (.bool a) = .returned (.bool b) := by rw [h]

/-- The slice v reads as the numbers xs, of the kind k, in the world w. -/
def Reads (k : IntKind) (w : World) (v : Value) (xs : List Int) : Prop :=
  ∃ a cap, v = .slice a xs.length cap ∧ xs.length ≤ cap ∧ cap ≤ maxLen ∧ (a = none → cap = 0) ∧ ∀ x, a = some x → ∀ i, i < xs.length → w.cell? (x.add i) = some (.int k (xs.getD i 0))

theorem getD_map {k : IntKind} {xs : List Int} {j : Nat} {u : Value} (h : (xs.map (Value.int k))[j]? = some u) : j < xs.length ∧ u = .int k (xs.getD j 0) := by
  rw [List.getElem?_map] at h
  have hj : j < xs.length := by
    rcases Nat.lt_or_ge j xs.length with h' | h'
    · exact h'
    · rw [List.getElem?_eq_none h'] at h; simp at h
  rw [List.getElem?_eq_getElem hj] at h
  simp at h
  exact ⟨hj, by rw [← h, List.getD_eq_getElem?_getD, List.getElem?_eq_getElem hj]; rfl⟩

theorem reads_own {w : World} {base : Nat} {e : TypeId} {k : IntKind} {v : Value} {xs : List Int} (h : w.ownsRow base e 1 v xs.length (xs.map (Value.int k))) : Reads k w v xs := by
  rcases h.2 with ⟨hv, h0⟩ | ⟨g, cap, cur, hv, hg, hgg, hc, hm, _⟩
  · subst hv
    refine ⟨none, 0, by rw [h0], by omega, by simp [maxLen], fun _ => rfl, fun x hx => by cases hx⟩
  · subst hv
    refine ⟨_, cap, rfl, hc, hm, fun hx => (by cases hx), ?_⟩
    intro x hx i hi
    injection hx with hx
    subst hx
    refine h.cells rfl i _ ?_
    rw [List.getElem?_map, List.getElem?_eq_getElem hi]
    simp [List.getD_eq_getElem?_getD, List.getElem?_eq_getElem hi]

/-- Where the slice has a cell, it begins at a plain place. -/
theorem Reads.plain {k : IntKind} {w : World} {v : Value} {xs : List Int} (h : Reads k w v xs) (hn : 0 < xs.length) :
    ∃ b off cap, v = .slice (some ⟨b, off, none⟩) xs.length cap ∧ xs.length ≤ cap ∧ cap ≤ maxLen ∧ b < w.heap.size ∧ ∀ i, i < xs.length → w.cell? ⟨b, off + i, none⟩ = some (.int k (xs.getD i 0)) := by
  obtain ⟨a, cap, rfl, hc, hm, ha, hcell⟩ := h
  cases a with
  | none => have := ha rfl; omega
  | some x =>
    obtain ⟨b, off, spot⟩ := x
    have h0 := hcell _ rfl 0 hn
    have hs : spot = none := by simpa [Addr.add] using World.cell?_spot h0
    subst hs
    refine ⟨b, off, cap, rfl, hc, hm, ?_, ?_⟩
    · exact World.block_lt_of_cell? w _ h0
    · intro i hi
      have := hcell _ rfl i hi
      have hadd : (⟨b, off, none⟩ : Addr).add i = ⟨b, off + i, none⟩ := by unfold Addr.add; split <;> simp_all
      rwa [hadd] at this
theorem Reads.empty {k : IntKind} {w : World} {v : Value} (h : Reads k w v []) : ∃ a cap, v = .slice a 0 cap ∧ cap ≤ maxLen ∧ (a = none → cap = 0) := by
  obtain ⟨a, cap, rfl, hc, hm, ha, hcell⟩ := h
  exact ⟨a, cap, rfl, hm, ha⟩

/-- Reading goes on where nothing below has turned. -/
theorem Reads.below {k : IntKind} {w w' : World} {v : Value} {xs : List Int} {B : Nat} (h : Reads k w v xs) (hb : Below B w w') (hB : w.heap.size ≤ B) : Reads k w' v xs := by
  obtain ⟨a, cap, rfl, hc, hm, ha, hcell⟩ := h
  refine ⟨a, cap, rfl, hc, hm, ha, fun x hx i hi => ?_⟩
  have h1 := hcell x hx i hi
  exact (hb.cell (Nat.lt_of_lt_of_le (World.block_lt_of_cell? w _ h1) hB)).trans h1

/-- What is told of a slice of integers that came in: it is nil; or it leads to a row of cap cells, the numbers zs, of which the first len are its elements. -/
def IsRow (k : IntKind) (w : World) (a : Option Addr) (len cap : Nat) (zs : List Int) : Prop :=
  (a = none ∧ len = 0 ∧ cap = 0 ∧ zs = []) ∨
  ∃ x, a = some x ∧ len ≤ cap ∧ cap ≤ maxLen ∧ zs.length = cap ∧ (∀ i, i < zs.length → w.cell? (x.add i) = some (.int k (zs.getD i 0))) ∧ ∀ n ∈ zs, (Lit.int k n).wf = true
theorem IsRow.reads {k : IntKind} {w : World} {a : Option Addr} {len cap : Nat} {zs : List Int} (h : IsRow k w a len cap zs) :
    Reads k w (.slice a len cap) (zs.take len) ∧ (zs.take len).length = len ∧ len ≤ cap ∧ ∀ n ∈ zs.take len, (Lit.int k n).wf = true := by
  rcases h with ⟨rfl, rfl, rfl, rfl⟩ | ⟨x, rfl, hl, hm, hz, hcell, hwf⟩
  · exact ⟨⟨none, 0, rfl, by simp, by simp [maxLen], fun _ => rfl, fun x hx => by cases hx⟩, rfl, Nat.le_refl _, fun n hn => by simp at hn⟩
  · have e : (zs.take len).length = len := List.length_take_of_le (by omega)
    refine ⟨⟨some x, cap, by rw [e], by omega, hm, fun hx => (by cases hx), ?_⟩, e, hl, fun n hn => hwf n (List.mem_of_mem_take hn)⟩
    intro y hy i hi
    injection hy with hy
    subst hy
    rw [e] at hi
    rw [hcell i (by omega), List.getD_eq_getElem?_getD, List.getD_eq_getElem?_getD, List.getElem?_take_of_lt hi]
theorem bytes_wf {xs : List Int} (h : ∀ n ∈ xs, (Lit.int .u8 n).wf = true) : ∀ x ∈ xs, 0 ≤ x ∧ x ≤ 255 := fun x hx => bounds_u8 (h x hx)

theorem strOfNums_inj : ∀ {xs ys : List Int}, (∀ x ∈ xs, 0 ≤ x ∧ x ≤ 255) → (∀ x ∈ ys, 0 ≤ x ∧ x ≤ 255) → (xs.map fun n => UInt8.ofNat n.toNat) = (ys.map fun n => UInt8.ofNat n.toNat) → xs = ys
  | [], [], _, _, _ => rfl
  | [], _ :: _, _, _, h => by simp at h
  | _ :: _, [], _, _, h => by simp at h
  | x :: xs, y :: ys, hx, hy, h => by
    simp only [List.map_cons, List.cons.injEq] at h
    have h1 := hx x (by simp)
    have h2 := hy y (by simp)
    have e : x = y := by
      have := congrArg UInt8.toNat h.1
      simp at this
      omega
    rw [e, strOfNums_inj (fun a ha => hx a (by simp [ha])) (fun a ha => hy a (by simp [ha])) h.2]
theorem strOfNums_eq {xs ys : List Int} (hx : ∀ x ∈ xs, 0 ≤ x ∧ x ≤ 255) (hy : ∀ x ∈ ys, 0 ≤ x ∧ x ≤ 255) : (strOfNums xs).toList = (strOfNums ys).toList ↔ xs = ys := by
  rw [ByteArray.toList_eq, ByteArray.toList_eq, strOfNums_data, strOfNums_data]
  exact ⟨strOfNums_inj hx hy, fun h => by rw [h]⟩

theorem ret_i64 {a b : Int} (h : a = b) : Ending.returned (.int .i64 a) = .returned (.int .i64 b) := by rw [h]
theorem own_none (w : World) (base : Nat) : w.ownsRow base 5 1 (.slice none 0 0) ([] : List Int).length (([] : List Int).map (Value.int .u8)) := World.ownsRow_nil _ _ _ _

/-- A slice of a whole new block of bytes. -/
theorem reads_block {w : World} {g : Nat} {t : TypeId} {fr : Nat × Nat} {xs : List Int} (hg : w.heap[g]? = some (.cells (xs.map (Value.int .u8)).toArray t fr)) (hm : xs.length ≤ maxLen) :
    Reads .u8 w (.slice (some ⟨g, 0, none⟩) xs.length xs.length) xs := by
  refine ⟨_, _, rfl, Nat.le_refl _, hm, fun hx => (by cases hx), ?_⟩
  intro x hx i hi
  injection hx with hx
  subst hx
  have hadd : (⟨g, 0, none⟩ : Addr).add i = ⟨g, i, none⟩ := by unfold Addr.add; split <;> simp_all
  rw [hadd, cell_of_row w g i _ t fr hg, List.getElem?_toArray, List.getElem?_map, List.getElem?_eq_getElem hi]
  simp [List.getD_eq_getElem?_getD, List.getElem?_eq_getElem hi]
theorem reads_set {w : World} {g cap i : Nat} {xs : List Int} {y : Int} (h : Reads .u8 w (.slice (some ⟨g, 0, none⟩) xs.length cap) xs) (hi : i < xs.length) : Reads .u8 (w.setCell ⟨g, i, none⟩ (.int .u8 y)) (.slice (some ⟨g, 0, none⟩) xs.length cap) (xs.set i y) := by
  obtain ⟨a, cap', hv, hc, hm, ha, hcell⟩ := h
  injection hv with h1 _ h3
  subst h1 h3
  refine ⟨_, cap, by rw [List.length_set], by rw [List.length_set]; exact hc, hm, fun hx => (by cases hx), ?_⟩
  intro x hx j hj
  injection hx with hx
  subst hx
  rw [List.length_set] at hj
  have hadd : ∀ t, (⟨g, 0, none⟩ : Addr).add t = ⟨g, t, none⟩ := fun t => by unfold Addr.add; split <;> simp_all
  have hci := hcell _ rfl i hi
  have hcj := hcell _ rfl j hj
  rw [hadd] at hci hcj
  rw [hadd]
  by_cases e : j = i
  · subst e
    rw [World.cell?_setCell_same _ _ _ hci, List.getD_eq_getElem?_getD, List.getElem?_set_self hi]
    rfl
  · rw [World.cell?_setCell_other _ _ _ _ (by intro hh; injection hh with _ hh2; exact e hh2.symm), hcj, List.getD_eq_getElem?_getD, List.getD_eq_getElem?_getD, List.getElem?_set_ne (fun hh => e hh.symm)]
theorem wrap_id64 {x : Int} (h0 : -9223372036854775808 ≤ x) (h1 : x ≤ 9223372036854775807) : IntKind.i64.wrap x = x := by
  rw [IntKind.wrap_i64]; omega
theorem below_undrew {w w' : World} (h : Below w.drew.heap.size w.drew w') : Below w.heap.size w w' := ⟨h.os, h.tape, h.output, h.size, h.block⟩
theorem frozen_own {w : World} {base g n cap : Nat} {e : TypeId} {xs : List Value} (h : w.ownsRow base e 1 (.slice (some ⟨g, 0, none⟩) n cap) n xs) (j : Nat) : w.frozen? ⟨g, j, none⟩ = false := by
  rcases h.2 with ⟨hv, _⟩ | ⟨g', cap', cur, hv, _, hgg, _⟩
  · cases hv
  · injection hv with h1 _ _
    injection h1 with h1
    injection h1 with h1
    subst h1
    simp only [World.frozen?, hgg]
    simp

theorem own_cell {w : World} {base g n cap i : Nat} {xs : List Int} (h : w.ownsRow base 5 1 (.slice (some ⟨g, 0, none⟩) n cap) xs.length (xs.map (Value.int .u8))) (hi : i < xs.length) : w.cell? ⟨g, i, none⟩ = some (.int .u8 (xs.getD i 0)) := by
  have hadd : (⟨g, 0, none⟩ : Addr).add i = ⟨g, i, none⟩ := by unfold Addr.add; split <;> simp_all
  have := h.cells rfl i (.int .u8 (xs.getD i 0)) (by rw [List.getElem?_map, List.getElem?_eq_getElem hi]; simp [List.getD_eq_getElem?_getD, List.getElem?_eq_getElem hi])
  rwa [hadd] at this
theorem reads_far {k : IntKind} {w : World} {g g' n cap i : Nat} {xs : List Int} {u : Value} (h : Reads k w (.slice (some ⟨g, 0, none⟩) n cap) xs) (hne : g ≠ g') : Reads k (w.setCell ⟨g', i, none⟩ u) (.slice (some ⟨g, 0, none⟩) n cap) xs := by
  obtain ⟨a, cap', hv, hc, hm, ha, hcell⟩ := h
  injection hv with h1 h2 h3
  subst h1 h2 h3
  refine ⟨_, cap, rfl, hc, hm, fun hx => (by cases hx), ?_⟩
  intro x hx j hj
  injection hx with hx
  subst hx
  have hadd : (⟨g, 0, none⟩ : Addr).add j = ⟨g, j, none⟩ := by unfold Addr.add; split <;> simp_all
  have hcj := hcell _ rfl j hj
  rw [hadd] at hcj ⊢
  rw [World.cell?_setCell_other _ _ _ _ (by intro hh; injection hh with hh1 _; exact hne hh1.symm), hcj]
theorem own_new0 (w : World) (base : Nat) (hb : base ≤ w.heap.size) : (w.alloc (.cells #[] 5)).ownsRow base 5 1 (.slice (some ⟨w.heap.size, 0, none⟩) 0 0) ([] : List Int).length (([] : List Int).map (Value.int .u8)) :=
  ⟨by simp, .inr ⟨w.heap.size, 0, #[], rfl, hb, heap_alloc_new w _, by simp, by simp [maxLen], by simp, by simp⟩⟩

/-- s[:n], s[u:], s[u:n] read as the list's. -/
theorem reads_mid {k : IntKind} {w : World} {b off cap u n : Nat} {xs : List Int} (hc : xs.length ≤ cap) (hm : cap ≤ maxLen) (hu : u ≤ n) (hn : n ≤ xs.length) (h : ∀ i, i < xs.length → w.cell? ⟨b, off + i, none⟩ = some (.int k (xs.getD i 0))) :
    Reads k w (.slice (some ⟨b, off + u, none⟩) (n - u) (cap - u)) ((xs.drop u).take (n - u)) := by
  have hl : ((xs.drop u).take (n - u)).length = n - u := by rw [List.length_take, List.length_drop]; omega
  refine ⟨some ⟨b, off + u, none⟩, cap - u, by rw [hl], by rw [hl]; omega, by omega, fun hx => (by cases hx), ?_⟩
  intro x hx i hi
  injection hx with hx
  subst hx
  rw [hl] at hi
  have hadd : (⟨b, off + u, none⟩ : Addr).add i = ⟨b, off + (u + i), none⟩ := by unfold Addr.add; split <;> simp_all [Nat.add_assoc]
  rw [hadd, h (u + i) (by omega), List.getD_eq_getElem?_getD, List.getD_eq_getElem?_getD, List.getElem?_take_of_lt hi, List.getElem?_drop]
theorem reads_upto {k : IntKind} {w : World} {b off cap n : Nat} {xs : List Int} (hc : xs.length ≤ cap) (hm : cap ≤ maxLen) (hn : n ≤ xs.length) (h : ∀ i, i < xs.length → w.cell? ⟨b, off + i, none⟩ = some (.int k (xs.getD i 0))) :
    Reads k w (.slice (some ⟨b, off, none⟩) n cap) (xs.take n) := by
  have := reads_mid (u := 0) hc hm (Nat.zero_le n) hn h
  simpa using this
theorem addr_add (g j : Nat) : (⟨g, 0, none⟩ : Addr).add j = ⟨g, j, none⟩ := by unfold Addr.add; split <;> simp_all
theorem addr_plus (g o j : Nat) : (⟨g, o, none⟩ : Addr).add j = ⟨g, o + j, none⟩ := by unfold Addr.add; split <;> simp_all
theorem below_alloc (w : World) (o : Obj) : Below w.heap.size w (w.alloc o) := (Below.refl _ _).alloc (Nat.le_refl _) o
theorem size_setCell (w : World) (p : Addr) (x : Value) : (w.setCell p x).heap.size = w.heap.size := by simp [World.setCell]
theorem frozenK {w : World} {base g n cap k : Nat} {e : TypeId} {xs : List Value} (h : w.ownsRow base e k (.slice (some ⟨g, 0, none⟩) n cap) n xs) (j : Nat) : w.frozen? ⟨g, j, none⟩ = false := by
  rcases h.2 with ⟨hv, _⟩ | ⟨g', cap', cur, hv, _, hgg, _⟩
  · cases hv
  · injection hv with h1 _ _
    injection h1 with h1
    injection h1 with h1
    subst h1
    simp only [World.frozen?, hgg]
    simp
/-- An owned row behind a store into it. -/
theorem own_setRow {w : World} {base g n cap j : Nat} {e : TypeId} {size : Nat} {xs : List Value} {x : Value} (h : w.ownsRow base e size (.slice (some ⟨g, 0, none⟩) n cap) n xs) :
    (w.setCell ⟨g, j, none⟩ x).ownsRow base e size (.slice (some ⟨g, 0, none⟩) n cap) n (xs.set j x) := by
  rcases h.2 with ⟨hv, _⟩ | ⟨g', cap', cur, hv, hg, hgg, hc, hm, hcur, htk⟩
  · cases hv
  · injection hv with h1 _ h3
    injection h1 with h1
    injection h1 with h1
    subst h1 h3
    refine ⟨by rw [List.length_set]; exact h.1, .inr ⟨g, cap, cur.setIfInBounds j x, rfl, hg, ?_, hc, hm, by simp [hcur], ?_⟩⟩
    · have hlt := (Array.getElem?_eq_some_iff.1 hgg).1
      simp only [World.setCell, Array.getElem?_modify, if_true]
      rw [hgg]
      rfl
    · rw [Array.toList_setIfInBounds, List.take_set, htk]
/-- The numbers are what their type allows. -/
def i64B (n : Int) : Prop := -9223372036854775808 ≤ n ∧ n ≤ 9223372036854775807
theorem take_snocI {xs : List Int} {k : Nat} (h : k < xs.length) : xs.take (k + 1) = xs.take k ++ [xs.getD k 0] := by
  rw [List.take_succ_eq_append_getElem h, List.getD_eq_getElem?_getD, List.getElem?_eq_getElem h]; rfl
theorem take_snoc {α : Type} {xs : List α} {k : Nat} {x : α} (h : xs[k]? = some x) : xs.take (k + 1) = xs.take k ++ [x] := by
  rw [List.take_add_one, h]; rfl
theorem cell_new0 (w : World) (v : Value) (t : TypeId) : (w.alloc (.cells #[v] t)).cell? ⟨w.heap.size, 0, none⟩ = some v := by
  rw [World.cell?_alloc_new]; rfl
/-- The box of a parameter, read behind all that a call has done since. -/
theorem box_cell {w w' : World} {v : Value} {t : TypeId} (h : Below (w.heap.size + 1) (w.alloc (.cells #[v] t)) w') : w'.cell? ⟨w.heap.size, 0, none⟩ = some v :=
  (h.cell (p := ⟨w.heap.size, 0, none⟩) (Nat.lt_succ_self _)).trans (cell_new0 w v t)
theorem box_below {w w' : World} {o : Obj} (h : Below (w.heap.size + 1) (w.alloc o) w') : Below w.heap.size w w' :=
  (below_alloc w o).trans (h.mono (Nat.le_succ _))
theorem box_cell2 {w w' : World} {v : Value} {t : TypeId} (h : Below (w.heap.size + 1) (w.alloc (.cells #[v] t)) w') (x : Obj) : (w'.alloc x).cell? ⟨w.heap.size, 0, none⟩ = some v :=
  box_cell (h.alloc (by have := h.size; simpa using this) x)
theorem cell_third (w : World) (o1 o2 : Obj) (v : Value) (t : TypeId) : (((w.alloc o1).alloc o2).alloc (.cells #[v] t)).cell? ⟨w.heap.size + 2, 0, none⟩ = some v := by
  have := cell_new0 ((w.alloc o1).alloc o2) v t
  have e : ((w.alloc o1).alloc o2).heap.size = w.heap.size + 2 := by simp
  rwa [e] at this
theorem frozen_new0 (w : World) (v : Value) (t : TypeId) : (w.alloc (.cells #[v] t)).frozen? ⟨w.heap.size, 0, none⟩ = false := by
  have h := heap_alloc_new w (.cells #[v] t)
  simp only [World.frozen?, h]
  simp
theorem frozen_third (w : World) (o1 o2 : Obj) (v : Value) (t : TypeId) : (((w.alloc o1).alloc o2).alloc (.cells #[v] t)).frozen? ⟨w.heap.size + 2, 0, none⟩ = false := by
  have := frozen_new0 ((w.alloc o1).alloc o2) v t
  have e : ((w.alloc o1).alloc o2).heap.size = w.heap.size + 2 := by simp
  rwa [e] at this
theorem cell_second (w : World) (o1 : Obj) (v : Value) (t : TypeId) : ((w.alloc o1).alloc (.cells #[v] t)).cell? ⟨w.heap.size + 1, 0, none⟩ = some v := by
  have := cell_new0 (w.alloc o1) v t
  have e : (w.alloc o1).heap.size = w.heap.size + 1 := by simp
  rwa [e] at this
theorem frozen_second (w : World) (o1 : Obj) (v : Value) (t : TypeId) : ((w.alloc o1).alloc (.cells #[v] t)).frozen? ⟨w.heap.size + 1, 0, none⟩ = false := by
  have := frozen_new0 (w.alloc o1) v t
  have e : (w.alloc o1).heap.size = w.heap.size + 1 := by simp
  rwa [e] at this
/-- Rows of other element types lie in other blocks. -/
theorem own_apart {w : World} {b b' n n' s s' : Nat} {e e' : TypeId} {v v' : Value} {xs xs' : List Value} (h : w.ownsRow b e s v n xs) (h' : w.ownsRow b' e' s' v' n' xs') (hne : e ≠ e') : v.ownBlock = none ∨ v.ownBlock ≠ v'.ownBlock := by
  rcases h.2 with ⟨hv, _⟩ | ⟨g, cap, cur, hv, _, hgg, _⟩
  · subst hv; exact .inl rfl
  · subst hv
    refine .inr fun e => ?_
    rcases h'.2 with ⟨hv', _⟩ | ⟨g', cap', cur', hv', _, hgg', _⟩
    · subst hv'; cases e
    · subst hv'
      injection e with e
      have e' : g = g' := e
      subst e'
      rw [hgg] at hgg'
      injection hgg' with hgg'
      injection hgg' with _ ht _
      exact absurd ht hne
theorem getD_app_left {α : Type} {l : List α} {x d : α} {i : Nat} (h : i < l.length) : (l ++ [x]).getD i d = l.getD i d := by
  rw [List.getD_eq_getElem?_getD, List.getD_eq_getElem?_getD, List.getElem?_append_left h]
theorem getD_app_last {α : Type} {l : List α} {x d : α} : (l ++ [x]).getD l.length d = x := by
  rw [List.getD_eq_getElem?_getD]; simp
theorem own_other {w : World} {base g n j : Nat} {e : TypeId} {size : Nat} {v x : Value} {xs : List Value} (h : w.ownsRow base e size v n xs) (hne : v.ownBlock = none ∨ v.ownBlock ≠ some g) : (w.setCell ⟨g, j, none⟩ x).ownsRow base e size v n xs := by
  refine ⟨h.1, ?_⟩
  rcases h.2 with hv | ⟨g', cap', cur, hv, hg, hgg, rest⟩
  · exact .inl hv
  · subst hv
    refine .inr ⟨g', cap', cur, rfl, hg, ?_, rest⟩
    rw [Below.heap_setCell _ _ _ _ (fun e => by rcases hne with h | h; cases h; exact h (by rw [show g' = g from e]; rfl))]
    exact hgg
theorem below_two {w w' : World} {o1 o2 : Obj} (h : Below (w.heap.size + 2) ((w.alloc o1).alloc o2) w') : Below w.heap.size w w' :=
  ((below_alloc w o1).alloc (by simp) o2).trans (h.mono (by omega))
theorem heap_second (w : World) (o1 : Obj) (cs : Array Value) (t : TypeId) : ((w.alloc o1).alloc (.cells cs t)).heap[w.heap.size + 1]? = some (.cells cs t (0, 0)) := by
  have := heap_alloc_new (w.alloc o1) (.cells cs t)
  simpa using this
theorem two_cell0 {w w' : World} {v : Value} {t : TypeId} {o : Obj} (h : Below (w.heap.size + 2) ((w.alloc (.cells #[v] t)).alloc o) w') : w'.cell? ⟨w.heap.size, 0, none⟩ = some v :=
  (h.cell (p := ⟨w.heap.size, 0, none⟩) (by simp)).trans (((below_alloc (w.alloc (.cells #[v] t)) o).cell (p := ⟨w.heap.size, 0, none⟩) (by simp)).trans (cell_new0 w v t))
theorem two_cell1 {w w' : World} {v : Value} {t : TypeId} {o : Obj} (h : Below (w.heap.size + 2) ((w.alloc o).alloc (.cells #[v] t)) w') : w'.cell? ⟨w.heap.size + 1, 0, none⟩ = some v :=
  (h.cell (p := ⟨w.heap.size + 1, 0, none⟩) (Nat.lt_succ_self _)).trans (cell_second w o v t)
/-- One goal for several ways that come together. -/
theorem Hid.cut {G X : Prop} (h : Hid G → X) (g : G) : X := h g
theorem makeFunc_run : ∀ (fn : Fn) (first cap : Array Value) (w : World), (Instr.makeFunc fn first cap).run Tryd.prog w = .ok (.func fn first cap) w := fun _ _ _ _ => rfl
theorem store_func_run (P : Program) (w : World) (a : Addr) (m : Mode) (fn : Fn) (first captured : Array Value) : (store a (.func fn first captured) m).run P w = stored P w a (.func fn first captured) m := run_store P w a _ m rfl
theorem below_drewN {B : Nat} {a w : World} (h : Below B a w) : ∀ n, Below B a (w.drewN n) := fun _ => ⟨h.os, h.tape, h.output, h.size, h.block⟩
end Go.Proofs.YtdeghndcglgfkaaDoor
