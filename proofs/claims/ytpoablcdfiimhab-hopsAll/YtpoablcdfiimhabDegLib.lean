/-
  P4.5 in plain mathematics: how many edges go from each vertex; rows of numbers.
-/
import Derived.Test.YtpoablcdfiimhabOrderLib
import Derived.Test.YtpoablcdfiimhabRowAt
import Derived.Laws.OwnMore
namespace Go.Proofs.Ytpoablcdfiimhab
open Go.ChangeShapes Go.WideShapes Go.ChangeAt Go.RowKit

/-- How many edges go from v. -/
def degE (es : List Ed) (v : Nat) : Int := (es.countP fun e => e.1 == (v : Int) : Nat)
/-- P4.5: the answer. -/
def degL (m : Nat) (es : List Ed) : List Int := (List.range m).map (degE es)
theorem degL_len (m : Nat) (es : List Ed) : (degL m es).length = m := by simp [degL]
theorem degL_at {m : Nat} {es : List Ed} {v : Nat} (h : v < m) : (degL m es)[v]? = some (degE es v) := by simp [degL, h]
theorem degE_snoc (es : List Ed) (x : Ed) (v : Nat) : degE (es ++ [x]) v = degE es v + (if x.1 == (v : Int) then 1 else 0) := by
  unfold degE
  rw [List.countP_append]
  by_cases h : x.1 == (v : Int) <;> simp [h]
theorem degL_step {m f : Nat} {es : List Ed} {x : Ed} (hf : x.1 = (f : Int)) (h : f < m) : degL m (es ++ [x]) = (degL m es).set f (degE es f + 1) := by
  refine List.ext_getElem? fun v => ?_
  rcases Nat.lt_or_ge v m with hv | hv
  · rw [degL_at hv, degE_snoc, hf]
    by_cases e : f = v
    · subst e
      rw [List.getElem?_set_self (by rw [degL_len]; exact h)]
      simp
    · rw [List.getElem?_set_ne e, degL_at hv]
      have : ((f : Int) == (v : Int)) = false := by simp; omega
      simp [this]
  · rw [List.getElem?_eq_none (by rw [degL_len]; exact hv), List.getElem?_eq_none (by rw [List.length_set, degL_len]; exact hv)]
theorem degE_le (es : List Ed) (v : Nat) : 0 ≤ degE es v ∧ degE es v ≤ es.length := by
  unfold degE
  have := List.countP_le_length (p := fun e : Ed => e.1 == (v : Int)) (l := es)
  omega
theorem degL_zero (m : Nat) : degL m [] = List.replicate m 0 := by
  refine List.ext_getElem? fun v => ?_
  rcases Nat.lt_or_ge v m with hv | hv
  · rw [degL_at hv, List.getElem?_replicate, if_pos hv]; rfl
  · rw [List.getElem?_eq_none (by rw [degL_len]; exact hv), List.getElem?_eq_none (by simpa using hv)]

theorem encI_len (x : Int) : (encI x).length = 1 := rfl
theorem flatI (xs : List Int) : xs.flatMap encI = xs.map (Value.int .i64) := by
  induction xs with
  | nil => rfl
  | cons x xs ih => rw [List.flatMap_cons, ih]; rfl
theorem made_zero (m : Nat) : (madeCells (Value.int .i64 0).cells (m * 1)).toList = (List.replicate m (0 : Int)).flatMap encI := by
  rw [flatI]
  simp [madeCells, Value.cells]
  refine List.ext_getElem? fun v => ?_
  rcases Nat.lt_or_ge v m with hv | hv
  · rw [List.getElem?_map, List.getElem?_range hv, List.getElem?_replicate, if_pos hv]
    simp [Nat.mod_one]
  · rw [List.getElem?_eq_none (by simpa using hv), List.getElem?_eq_none (by simpa using hv)]
/-- make([]int, m). -/
theorem make_ints (w : World) (m : Nat) (hm : m ≤ 1000000) :
    ∃ w', (Instr.makeSlice 30 (.int .i64 (m : Int)) (.int .i64 (m : Int))).run Try.prog w = .ok (.slice (some ⟨w.heap.size, 0, none⟩) m m) w' ∧
      w'.ownsRow w.heap.size 3 1 (.slice (some ⟨w.heap.size, 0, none⟩) m m) m ((List.replicate m (0 : Int)).flatMap encI) ∧ Below w.heap.size w w' := by
  obtain ⟨i0, hi, hz0, hz1, hz2⟩ := info_parts Try.info3
  obtain ⟨w', h1, h2, h3⟩ := run_makeSlice_full (P := Try.prog) w w.heap.size 30 3 i0 (.int .i64 0) 1 Try.underlying30 hi hz0 hz1 .i64 .i64 m (by omega) (by rw [hz2]; omega) (by unfold maxLen; omega) (Nat.le_refl _)
  rw [made_zero] at h2
  exact ⟨w', h1, h2, (Below.refl _ _).grown h3 (Nat.le_refl _) (fun k hk => by cases hk)⟩
theorem own_setI {w : World} {base g n cap j : Nat} {xs : List Int} {x : Int} (h : w.ownsRow base 3 1 (.slice (some ⟨g, 0, none⟩) n cap) n (xs.flatMap encI)) : (w.setCell ⟨g, j, none⟩ (.int .i64 x)).ownsRow base 3 1 (.slice (some ⟨g, 0, none⟩) n cap) n ((xs.set j x).flatMap encI) := by
  have := own_setRow (j := j) (x := .int .i64 x) h
  rw [flatI] at this ⊢
  rwa [List.map_set]
theorem own_atI {w : World} {base g n cap : Nat} {xs : List Int} (h : w.ownsRow base 3 1 (.slice (some ⟨g, 0, none⟩) n cap) n (xs.flatMap encI)) {i : Nat} {x : Int} (hx : xs[i]? = some x) : w.cell? ⟨g, i, none⟩ = some (.int .i64 x) := by
  have := h.cells rfl i (.int .i64 x) (by rw [flatI, List.getElem?_map, hx]; rfl)
  rwa [addr_add] at this
end Go.Proofs.Ytpoablcdfiimhab
