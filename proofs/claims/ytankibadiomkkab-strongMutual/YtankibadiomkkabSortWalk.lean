/-
  Contract of slices.SortFunc with graph's compare, on a row of edges of the call's own.
-/
import Derived.Test.YtankibadiomkkabCompareWalk
import Derived.Test.YtankibadiomkkabSortLaid
namespace Go.Proofs.Ytankibadiomkkab
set_option maxRecDepth 100000
open Go.ChangeShapes Go.WideShapes Go.ChangeAt Go.RowKit Go.Sort

theorem encE_agg (x : Ed) : (.agg (encE x).toArray : Value) = .agg #[.int .i64 x.1, .int .i64 x.2.1, .int .i64 x.2.2] := rfl
theorem cmpLaysE (blk off size : Nat) (w : World) : CmpLays Try.prog 19 #[] encE 3 cmpE blk off size w := fun _ _ _ _ x y => compare_any x y _

theorem flat_get (d : List Ed) (t : Nat) (h : t < d.length * 3) : (d.flatMap encE)[t]? = some (flatK encE 3 d.toArray)[t]! := by
  have h1 : t / 3 < d.length := by omega
  have h2 : t % 3 < 3 := by omega
  have hx : d[t / 3]? = some d[t / 3] := List.getElem?_eq_getElem h1
  have hm2 : t % 3 < (encE d[t / 3]).length := h2
  have hu : (encE d[t / 3])[t % 3]? = some (encE d[t / 3])[t % 3] := List.getElem?_eq_getElem hm2
  have := flat_at encE_len hx hu
  rw [show t / 3 * 3 + t % 3 = t by omega] at this
  rw [this, get_flatK _ _ _ _ (by simpa using h)]
  congr 1
  have e1 : d.toArray[t / 3]! = d[t / 3] := by rw [getElem!_pos _ _ (by simpa using h1)]; simp
  rw [e1]
  exact (getElem!_pos (encE d[t / 3]) (t % 3) hm2).symm

/-- An owned row of edges, in the sort's words. -/
theorem holds_own {w : World} {base g n cap : Nat} {d : List Ed} (h : w.ownsRow base 37 3 (.slice (some ⟨g, 0, none⟩) n cap) d.length (d.flatMap encE)) : HoldsK encE 3 w g 0 d.toArray := by
  intro j hj
  rw [size_flatK] at hj
  have hj' : j < d.length * 3 := by simpa using hj
  rcases own_shapeK h with ⟨hv, _⟩ | ⟨g', cap', hv, _, _, _, _, hc⟩
  · cases hv
  · injection hv with h1 h2 h3
    injection h1 with h1
    injection h1 with h1
    subst h1 h2 h3
    refine ⟨?_, frozenK h _⟩
    have := hc j _ (flat_get d j hj')
    rw [Nat.zero_add]; exact this
/-- .. and back, behind the sort. -/
theorem own_sorted {w : World} {base g n cap m : Nat} {d d' : List Ed} {os : Array Obj} (h : w.ownsRow base 37 3 (.slice (some ⟨g, 0, none⟩) n cap) d.length (d.flatMap encE)) (hl : d'.length = d.length) :
    (sortWorldK encE 3 w g 0 m d'.toArray os).ownsRow base 37 3 (.slice (some ⟨g, 0, none⟩) n cap) d'.length (d'.flatMap encE) ∧ Below base w (sortWorldK encE 3 w g 0 m d'.toArray os) := by
  rcases h.2 with ⟨hv, _⟩ | ⟨g', cap', cur, hv, hg, hgg, hc, hm, hcur, htk⟩
  · cases hv
  · injection hv with h1 h2 h3
    injection h1 with h1
    injection h1 with h1
    subst h1 h2 h3
    have lt : g < w.heap.size := (Array.getElem?_eq_some_iff.1 hgg).1
    have hblk : (sortWorldK encE 3 w g 0 m d'.toArray os).heap[g]? = some (.cells (putCells id 0 (flatK encE 3 d'.toArray) cur) 37 (0, 0)) := by
      simp only [sortWorldK, grow, putRowK, putRow, mapBlock, Sort.ahead]
      rw [Array.getElem?_append_left (by simpa using lt), Array.getElem?_modify, if_pos rfl, hgg]
      rfl
    refine ⟨⟨flat_len encE_len d', .inr ⟨g, cap, _, by rw [hl], hg, hblk, by rw [hl]; exact hc, hm, by simp [putCells, hcur], ?_⟩⟩, ?_⟩
    · refine List.ext_getElem? fun t => ?_
      rcases Nat.lt_or_ge t (d'.length * 3) with ht | ht
      · rw [List.getElem?_take_of_lt ht, flat_get d' t ht, Array.getElem?_toList]
        simp only [putCells, Array.getElem?_mapIdx]
        have hc2 : t < cur.size := by rw [hcur]; rw [hl] at ht; omega
        rw [Array.getElem?_eq_getElem hc2, Option.map_some, if_pos ⟨by omega, by rw [size_flatK]; simpa using ht⟩]
        rfl
      · rw [List.getElem?_eq_none (by rw [List.length_take]; omega), List.getElem?_eq_none (by rw [flat_len encE_len d']; omega)]
    · refine ⟨rfl, rfl, rfl, ?_, fun k hk => ?_⟩
      · simp [sortWorldK, grow, putRowK, putRow, mapBlock, Sort.ahead]
      · have hk2 : k < w.heap.size := by omega
        simp only [sortWorldK, grow, putRowK, putRow, mapBlock, Sort.ahead]
        rw [Array.getElem?_append_left (by simpa using hk2), Array.getElem?_modify, if_neg (by omega)]

/-- slices.SortFunc with compare. -/
theorem sort_any (base : Nat) (v : Value) (es : List Ed) (w : World) (h : w.ownsRow base 37 3 v es.length (es.flatMap encE)) (hl : es.length < 4611686018427387904) :
    Calls Try.prog 18 #[v, .func (.func 19) #[] #[]] w fun e w' => e = .returned (.tuple #[]) ∧ w'.ownsRow base 37 3 v (sortE es).length ((sortE es).flatMap encE) ∧ Below base w w' := by
  rcases own_shapeK h with ⟨rfl, h0, _⟩ | ⟨g, cap, rfl, hg, lt, hc, hm, _⟩
  · have : es = [] := List.eq_nil_of_length_eq_zero h0
    subst this
    have hcon := AnyF.slices_SortFunc_none Try.sortE none 0 (.func (.func 19) #[] #[]) w
    change Calls Try.prog 18 _ _ _ at hcon
    refine hcon.mono ?_
    rintro e w' ⟨rfl, rfl⟩
    exact ⟨rfl, by simpa [sortE] using h, Below.refl _ _⟩
  · have eg : ∀ args w, (callFunc 19 args).run Try.prog w = .ok (.enter 19 args) w := Go.Proofs.enters_of Try.func19 (by kernel_rfl) rfl
    have hcon := AnyQ.slices_SortFunc_total Try.sortE 3 Try.isAgg37 Try.sizeOf37 encE encE_len (fun x u hu => encE_one x u hu) cmpE swoE 19 #[] g 0 cap es.toArray w eg (cmpLaysE _ _ _ _) (holds_own h) lt (by simpa using hl) totE
    change Calls Try.prog 18 _ _ _ at hcon
    rw [show es.toArray.size = es.length by simp] at hcon
    refine hcon.mono ?_
    rintro e w' ⟨rfl, m, os, rfl⟩
    have := own_sorted (m := m) (os := os) h (sortE_len es)
    exact ⟨rfl, this.1, this.2⟩
end Go.Proofs.Ytankibadiomkkab
