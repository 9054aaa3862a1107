/-
  slices.Sort on a row of numbers of the call's own.
-/
import Derived.Test.YtbmkgnlfccigpabRoundMath
import Derived.Test.YtbmkgnlfccigpabIntRow
import Derived.Test.YtbmkgnlfccigpabKeptMem
import Derived.Test.YtbmkgnlfccigpabShelfI
namespace Go.Proofs.Ytbmkgnlfccigpab
set_option maxRecDepth 100000
open Go.ChangeShapes Go.WideShapes Go.ChangeAt Go.RowKit Go.Sort

theorem sortI_any (base : Nat) (v : Value) (l : List Int) (w : World) (h : w.ownsRow base 3 1 v l.length (l.flatMap encI)) (hl : l.length < 4611686018427387904) :
    Calls Try.prog 37 #[v] w fun e w' => e = .returned (.tuple #[]) ∧ w'.ownsRow base 3 1 v (sortN l).length ((sortN l).flatMap encI) ∧ Kept (fun q => v.ownBlock = some q) w w' := by
  rcases h.2 with ⟨rfl, h0⟩ | ⟨g, cap, cur, rfl, hg, hgg, hc, hm, hcur, htk⟩
  · have : l = [] := List.eq_nil_of_length_eq_zero h0
    subst this
    have e0 : sortN [] = [] := List.eq_nil_of_length_eq_zero (by rw [sortN_len]; rfl)
    refine (Try.slices_Sort_int_none none 0 w).mono ?_
    rintro e w' ⟨rfl, rfl⟩
    exact ⟨rfl, by rw [e0]; exact h, Kept.refl _ _⟩
  · have lt : g < w.heap.size := (Array.getElem?_eq_some_iff.1 hgg).1
    have hH : Holds (Value.int .i64) w g 0 l.toArray := fun j hj => by
      have hj' : j < l.length := by simpa using hj
      refine ⟨?_, ?_⟩
      · have := own_atN h (List.getElem?_eq_getElem hj')
        rw [Nat.zero_add, this, getElem!_pos _ _ (by simpa using hj')]
        simp
      · exact box_frozen hgg _
    refine (Try.slices_Sort_int g 0 cap l w hH lt hl).mono ?_
    rintro e w' ⟨rfl, n, os, rfl⟩
    have hsl : (sortN l).length = l.length := sortN_len l
    have hblk : (grow (putRow (Value.int .i64) (Sort.ahead w n) g 0 (l.mergeSort fun x y => decide (x ≤ y)).toArray) os).heap[g]? = some (.cells (putCells (Value.int .i64) 0 (sortN l).toArray cur) 3 (0, 0)) := by
      simp only [grow, putRow, mapBlock, Sort.ahead]
      rw [Array.getElem?_append_left (by simpa using lt), Array.getElem?_modify, if_pos rfl, hgg]
      rfl
    refine ⟨rfl, ⟨flat_len encI_len _, .inr ⟨g, cap, _, by rw [hsl], hg, hblk, by rw [hsl]; exact hc, hm, by simp [putCells, hcur], ?_⟩⟩, ?_⟩
    · rw [flatI]
      refine List.ext_getElem? fun t => ?_
      rcases Nat.lt_or_ge t (sortN l).length with ht | ht
      · rw [List.getElem?_take_of_lt (by omega), Array.getElem?_toList, List.getElem?_map, List.getElem?_eq_getElem ht]
        simp only [putCells, Array.getElem?_mapIdx]
        have hc2 : t < cur.size := by rw [hcur]; omega
        rw [Array.getElem?_eq_getElem hc2, Option.map_some, if_pos ⟨by omega, by simpa using ht⟩, Nat.sub_zero, getElem!_pos _ _ (by simpa using ht)]
        simp
      · rw [List.getElem?_eq_none (by rw [List.length_take]; omega), List.getElem?_eq_none (by simpa using ht)]
    · refine ⟨rfl, rfl, rfl, by simp [grow, putRow, mapBlock, Sort.ahead], fun k hk hne => ?_⟩
      have hkg : g ≠ k := fun e => hne (by rw [← e]; rfl)
      simp only [grow, putRow, mapBlock, Sort.ahead]
      rw [Array.getElem?_append_left (by simpa using hk), Array.getElem?_modify, if_neg hkg]
end Go.Proofs.Ytbmkgnlfccigpab
