/-
  Plain mathematics of P2 (no program): a frame is had again, whatever stands behind it; a changed byte of payload or sum is told; a frame whose end is torn off is refused.
-/
import Derived.Test.YthakibcfmbkpkaaDoorUnwrapWalk
namespace Go.Proofs.YthakibcfmbkpkaaDoor
set_option maxRecDepth 100000
open Go.ChangeShapes Go.WideShapes Go.ChangeAt Go.RowKit

theorem four_inj {a b : Nat} (h : four a = four b) : a = b := by
  simp only [four, List.cons.injEq, and_true] at h
  omega
/-- Bytes that begin with a length, so many bytes, and four more. -/
theorem unwrapF_parts (a q t : List Int) (hl : a.length ≤ 20000) (hq : q.length = 4) :
    unwrapF (((put a.length ++ a) ++ q) ++ t) = if four (crc (put a.length ++ a)) = q then (a, (put a.length).length + a.length + 4, 0) else ([], 0, 5) := by
  have hg : get (((put a.length ++ a) ++ q) ++ t) = ((a.length : Int), (put a.length).length, 0) := by
    rw [List.append_assoc, List.append_assoc]
    exact get_put (n := (a.length : Int)) _ (by omega) (by omega)
  have hL : (put (a.length : Int) ++ a).length = (put (a.length : Int)).length + a.length := List.length_append
  have h1 : (((put a.length ++ a) ++ q) ++ t).take ((put (a.length : Int)).length + a.length) = put a.length ++ a := by
    rw [← hL, List.append_assoc, List.take_left]
  have h2 : ((((put a.length ++ a) ++ q) ++ t).drop ((put (a.length : Int)).length + a.length)).take 4 = q := by
    rw [← hL, List.append_assoc, List.drop_left, ← hq, List.take_left]
  have h3 : ((((put a.length ++ a) ++ q) ++ t).drop (put (a.length : Int)).length).take a.length = a := by
    rw [List.append_assoc, List.append_assoc, List.drop_left, List.take_left]
  have h4 : (put (a.length : Int)).length + a.length + 4 ≤ (((put a.length ++ a) ++ q) ++ t).length := by simp [hq]; omega
  split
  · rename_i hs
    rw [unwrapF_ok hg hl h4 (by rw [h1, h2]; exact hs), h3]
  · rename_i hs
    rw [unwrapF_sum hg hl h4 (by rw [h1, h2]; exact hs)]
/-- A frame's payload is had again, whatever stands behind it. -/
theorem unwrapF_wrap (a t : List Int) (hl : a.length ≤ 20000) : unwrapF (wrap a ++ t) = (a, (wrap a).length, 0) := by
  unfold wrap
  rw [unwrapF_parts a _ t hl rfl, if_pos rfl]
  simp [four]; omega

theorem split_set {l : List Int} {i : Nat} (h : i < l.length) (y : Int) : l = l.take i ++ l.getD i 0 :: l.drop (i + 1) ∧ l.set i y = l.take i ++ y :: l.drop (i + 1) := by
  constructor
  · rw [← drop_step h, List.take_append_drop]
  · rw [List.set_eq_take_append_cons_drop, if_pos h]
theorem crc_set {l : List Int} {i : Nat} {y : Int} (hx : ∀ x ∈ l, 0 ≤ x ∧ x ≤ 255) (h : i < l.length) (hy : 0 ≤ y ∧ y ≤ 255) (hne : y ≠ l.getD i 0) : crc (l.set i y) ≠ crc l := by
  obtain ⟨h1, h2⟩ := split_set h y
  have hg : l.getD i 0 ∈ l := by rw [List.getD_eq_getElem?_getD, List.getElem?_eq_getElem h]; exact List.getElem_mem h
  have := crc_changed (l.take i) (l.drop (i + 1)) y (l.getD i 0) (fun z hz => hx z (List.mem_of_mem_take hz)) (fun z hz => hx z (List.mem_of_mem_drop hz)) hy (hx _ hg) hne
  rwa [← h1, ← h2] at this
theorem crc_set_xor {l : List Int} {i : Nat} {y : Int} (h : i < l.length) : crc l ^^^ crc (l.set i y) = farN (l.length - i) ((l.getD i 0).toNat ^^^ y.toNat) := by
  obtain ⟨h1, h2⟩ := split_set h y
  have := crc_turn (l.take i) (l.drop (i + 1)) (l.getD i 0) y
  rw [← h1, ← h2, List.length_drop] at this
  rw [this]
  congr 1
  omega
/-- One changed byte of a payload or its sum is told. -/
theorem unwrapF_changed {a : List Int} {i : Nat} {y : Int} (hx : ∀ x ∈ a, 0 ≤ x ∧ x ≤ 255) (hl : a.length ≤ 20000) (h0 : (put (a.length : Int)).length ≤ i) (h1 : i < (wrap a).length) (hy : 0 ≤ y ∧ y ≤ 255) (hne : y ≠ (wrap a).getD i 0) :
    unwrapF ((wrap a).set i y) = ([], 0, 5) := by
  rw [wrap_len] at h1
  have hL : (put (a.length : Int) ++ a).length = (put (a.length : Int)).length + a.length := List.length_append
  have hhb := head_bytes hx hl
  by_cases hi : i < (put (a.length : Int)).length + a.length
  · have e : (wrap a).set i y = ((put ((a.set (i - (put (a.length : Int)).length) y).length : Int) ++ a.set (i - (put (a.length : Int)).length) y) ++ four (crc (put a.length ++ a))) ++ [] := by
      unfold wrap
      rw [List.set_append_left _ _ (by omega), List.set_append_right _ _ h0, List.length_set, List.append_nil]
    have hcrc : crc ((put (a.length : Int) ++ a).set i y) ≠ crc (put (a.length : Int) ++ a) := by
      refine crc_set hhb (by omega) hy ?_
      intro hh
      apply hne
      rw [hh]
      show (put (a.length : Int) ++ a).getD i 0 = ((put (a.length : Int) ++ a) ++ four (crc (put (a.length : Int) ++ a))).getD i 0
      have hi2 : i < (put (a.length : Int) ++ a).length := by omega
      generalize put (a.length : Int) ++ a = hd at *
      rw [List.getD_eq_getElem?_getD, List.getD_eq_getElem?_getD, List.getElem?_append_left hi2]
    rw [e, unwrapF_parts _ _ _ (by rw [List.length_set]; exact hl) rfl, if_neg]
    intro hh
    have h2 := four_inj hh
    rw [List.length_set] at h2
    apply hcrc
    rw [List.set_append_right _ _ h0]
    exact h2
  · have e : (wrap a).set i y = ((put (a.length : Int) ++ a) ++ (four (crc (put a.length ++ a))).set (i - (put (a.length : Int) ++ a).length) y) ++ [] := by
      unfold wrap
      rw [List.set_append_right _ _ (by omega), List.append_nil]
    rw [e, unwrapF_parts _ _ _ hl (by rw [List.length_set]; rfl), if_neg]
    intro hh
    apply hne
    have hb : i - (put (a.length : Int) ++ a).length < (four (crc (put (a.length : Int) ++ a))).length := by show _ < 4; omega
    unfold wrap
    rw [List.getD_eq_getElem?_getD, List.getElem?_append_right (by omega), hh, List.getElem?_set_self hb]
    rfl
end Go.Proofs.YthakibcfmbkpkaaDoor
