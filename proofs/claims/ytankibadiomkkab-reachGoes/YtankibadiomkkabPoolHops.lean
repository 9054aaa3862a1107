/-
  The hops of a vertex and its edges.
-/
import Derived.Test.YtankibadiomkkabHopMath
import Derived.Test.YtankibadiomkkabLeastFirst
namespace Go.Proofs.Ytankibadiomkkab
set_option maxRecDepth 100000

theorem hopsL_outs (es : List Ed) (v : Int) : hopsL es v = (outs es v).map fun e => (e.2.1, e.2.2) := rfl
theorem hop_at {es : List Ed} {v : Int} {k : Nat} {x : Hp} (h : (hopsL es v)[k]? = some x) :
    ∃ e, x = (e.2.1, e.2.2) ∧ e ∈ es ∧ e.1 = v ∧ (outs es v).drop k = e :: (outs es v).drop (k + 1) := by
  rw [hopsL_outs, List.getElem?_map] at h
  cases he : (outs es v)[k]? with
  | none => rw [he] at h; cases h
  | some e =>
    rw [he] at h
    injection h with h
    obtain ⟨m1, m2⟩ := outs_mem.1 (List.mem_of_getElem? he)
    obtain ⟨hk, hk2⟩ := List.getElem?_eq_some_iff.1 he
    exact ⟨e, h.symm, m1, m2, by rw [List.drop_eq_getElem_cons hk, hk2]⟩
theorem outs_len (es : List Ed) (v : Int) : (outs es v).length = (hopsL es v).length := by rw [hopsL_outs, List.length_map]
end Go.Proofs.Ytankibadiomkkab
