/-
  Slices whose elements are rows of k cells: what they read as, what a call owns; slices of numbers.
-/
import Derived.Test.YtdeghndcglgfkaaDoorRowBase
namespace Go.Proofs.YtdeghndcglgfkaaDoor
set_option maxRecDepth 100000
open Go.ChangeShapes Go.WideShapes Go.ChangeAt Go.RowKit

/-- The slice v reads as xs, whose elements lie in k cells each. -/
def RowK {α : Type} (enc : α → List Value) (k : Nat) (w : World) (v : Value) (xs : List α) : Prop :=
  ∃ a cap, v = .slice a xs.length cap ∧ xs.length ≤ cap ∧ cap ≤ maxLen ∧ (a = none → cap = 0) ∧
    (0 < xs.length → ∃ b off, a = some ⟨b, off, none⟩ ∧ b < w.heap.size ∧ ∀ i x, xs[i]? = some x → ∀ j u, (enc x)[j]? = some u → w.cell? ⟨b, off + i * k + j, none⟩ = some u)

theorem RowK.below {α : Type} {enc : α → List Value} {k : Nat} {w w' : World} {v : Value} {xs : List α} {B : Nat} (h : RowK enc k w v xs) (hb : Below B w w') (hB : w.heap.size ≤ B) : RowK enc k w' v xs := by
  obtain ⟨a, cap, rfl, hc, hm, ha, hel⟩ := h
  refine ⟨a, cap, rfl, hc, hm, ha, fun hn => ?_⟩
  obtain ⟨b, off, e, lt, hv⟩ := hel hn
  exact ⟨b, off, e, Nat.lt_of_lt_of_le lt hb.size, fun i x hx j u hu => (hb.cell (p := ⟨b, off + i * k + j, none⟩) (show b < B by omega)).trans (hv i x hx j u hu)⟩
theorem RowK.nil {α : Type} (enc : α → List Value) (k : Nat) (w : World) : RowK enc k w (.slice none 0 0) ([] : List α) := ⟨none, 0, rfl, by simp, by simp [maxLen], fun _ => rfl, fun h => by simp at h⟩
theorem RowK.shape {α : Type} {enc : α → List Value} {k : Nat} {w : World} {v : Value} {xs : List α} (h : RowK enc k w v xs) : ∃ a c, v = .slice a xs.length c := by obtain ⟨a, c, e, _⟩ := h; exact ⟨a, c, e⟩

theorem flat_at {α : Type} {enc : α → List Value} {k : Nat} (hk : ∀ x, (enc x).length = k) : ∀ {xs : List α} {i j : Nat} {x : α} {u : Value}, xs[i]? = some x → (enc x)[j]? = some u → (xs.flatMap enc)[i * k + j]? = some u
  | [], i, j, x, u, h, _ => by simp at h
  | y :: ys, 0, j, x, u, h, hu => by
    simp at h; subst h
    have : j < (enc y).length := by
      rcases Nat.lt_or_ge j (enc y).length with h' | h'
      · exact h'
      · rw [List.getElem?_eq_none h'] at hu; cases hu
    rw [List.flatMap_cons, Nat.zero_mul, Nat.zero_add, List.getElem?_append_left this]; exact hu
  | y :: ys, i + 1, j, x, u, h, hu => by
    have := flat_at hk (xs := ys) (i := i) (by simpa using h) hu
    rw [List.flatMap_cons, List.getElem?_append_right (by rw [hk, Nat.add_mul]; omega), hk, show (i + 1) * k + j - k = i * k + j by rw [Nat.add_mul]; omega]
    exact this
theorem flat_len {α : Type} {enc : α → List Value} {k : Nat} (hk : ∀ x, (enc x).length = k) : ∀ (xs : List α), (xs.flatMap enc).length = xs.length * k
  | [] => by simp
  | y :: ys => by rw [List.flatMap_cons, List.length_append, hk, flat_len hk ys, List.length_cons, Nat.add_mul]; omega
theorem flat_snoc {α : Type} (enc : α → List Value) (xs : List α) (x : α) : (xs ++ [x]).flatMap enc = xs.flatMap enc ++ enc x := by simp

theorem RowK.own {α : Type} {enc : α → List Value} {k : Nat} (hk : ∀ x, (enc x).length = k) {w : World} {base : Nat} {e : TypeId} {v : Value} {xs : List α} (h : w.ownsRow base e k v xs.length (xs.flatMap enc)) : RowK enc k w v xs := by
  rcases h.2 with ⟨hv, h0⟩ | ⟨g, cap, cur, hv, hg, hgg, hc, hm, _⟩
  · have : xs = [] := List.eq_nil_of_length_eq_zero h0
    subst this hv
    exact RowK.nil _ _ _
  · subst hv
    refine ⟨_, cap, rfl, hc, hm, fun e => (by cases e), fun _ => ⟨g, 0, rfl, (Array.getElem?_eq_some_iff.1 hgg).1, fun i x hx j u hu => ?_⟩⟩
    have := h.cells rfl _ _ (flat_at hk hx hu)
    rw [addr_add] at this
    rw [Nat.zero_add]; exact this
/-- An owned row is nil and empty, or begins at the head of a block. -/
theorem own_shapeK {w : World} {base : Nat} {e : TypeId} {k n : Nat} {v : Value} {cs : List Value} (h : w.ownsRow base e k v n cs) :
    (v = .slice none 0 0 ∧ n = 0 ∧ cs = []) ∨ ∃ g cap, v = .slice (some ⟨g, 0, none⟩) n cap ∧ base ≤ g ∧ g < w.heap.size ∧ n ≤ cap ∧ cap ≤ maxLen ∧ ∀ j u, cs[j]? = some u → w.cell? ⟨g, j, none⟩ = some u := by
  rcases h.2 with ⟨hv, h0⟩ | ⟨g, cap, cur, hv, hg, hgg, hc, hm, _⟩
  · exact .inl ⟨hv, h0, List.eq_nil_of_length_eq_zero (by rw [h.1, h0, Nat.zero_mul])⟩
  · subst hv
    refine .inr ⟨g, cap, rfl, hg, (Array.getElem?_eq_some_iff.1 hgg).1, hc, hm, fun j u hu => ?_⟩
    have := h.cells rfl _ _ hu
    rwa [addr_add] at this
theorem Tryd.info3 : (Tryd.prog.info? 3).map (fun i => (i.zero, i.size, i.bytes)) = some (some (.int .i64 0), 1, 8) := by kernel_rfl
/-- Numbers. -/
def encI (x : Int) : List Value := [.int .i64 x]
theorem encI_len (x : Int) : (encI x).length = 1 := rfl
theorem flatI (xs : List Int) : xs.flatMap encI = xs.map (Value.int .i64) := by
  induction xs with
  | nil => rfl
  | cons x xs ih => rw [List.flatMap_cons, ih]; rfl
abbrev InR := RowK encI 1
theorem InR.at {w : World} {v : Value} {es : List Int} (h : InR w v es) (hn : 0 < es.length) :
    ∃ b off cap, v = .slice (some ⟨b, off, none⟩) es.length cap ∧ es.length ≤ cap ∧ cap ≤ maxLen ∧ b < w.heap.size ∧ ∀ i x, es[i]? = some x → w.cell? ⟨b, off + i, none⟩ = some (.int .i64 x) := by
  obtain ⟨a, cap, rfl, hc, hm, _, hel⟩ := h
  obtain ⟨b, off, rfl, lt, hv⟩ := hel hn
  exact ⟨b, off, cap, rfl, hc, hm, lt, fun i x hx => by have := hv i x hx 0 _ rfl; rwa [Nat.mul_one] at this⟩
theorem getX {α : Type} {es : List α} {i : Nat} (h : i < es.length) : ∃ x, es[i]? = some x := ⟨es[i], List.getElem?_eq_getElem h⟩
/-- What is answered where the error is f. -/
def okN (f n : Int) : Int := if f = 0 then n else 0
def okL {α : Type} (f : Int) (l : List α) : List α := if f = 0 then l else []
theorem okN_yes {n : Int} : okN 0 n = n := rfl
theorem okL_yes {α : Type} {l : List α} : okL 0 l = l := rfl
theorem okN_no {f n : Int} (h : f ≠ 0) : okN f n = 0 := by rw [okN, if_neg h]
theorem okL_no {α : Type} {f : Int} {l : List α} (h : f ≠ 0) : okL f l = [] := by rw [okL, if_neg h]
end Go.Proofs.YtdeghndcglgfkaaDoor
