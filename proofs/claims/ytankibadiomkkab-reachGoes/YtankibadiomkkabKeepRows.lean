/-
  Rows as long as there are vertices: what stands at each vertex.
-/
import Derived.Test.YtankibadiomkkabPathErr
namespace Go.Proofs.Ytankibadiomkkab
set_option maxRecDepth 100000
open Go.ChangeShapes Go.WideShapes Go.ChangeAt Go.RowKit

theorem BlR.row {w : World} {v : Value} {L : List Bool} {m : Nat} (h : BlR w v L) (hl : L.length = m) (hm : 0 < m) :
    ∃ b off cap, v = .slice (some ⟨b, off, none⟩) m cap ∧ m ≤ cap ∧ cap ≤ 9223372036854775807 ∧ b < w.heap.size ∧ ∀ i : Nat, i < m → w.cell? ⟨b, off + i, none⟩ = some (.bool (atB L (i : Int))) := by
  obtain ⟨b, off, cap, e, h1, h2, h3, h4⟩ := BlR.at h (by omega)
  rw [hl] at e h1
  refine ⟨b, off, cap, e, h1, by unfold maxLen at h2; omega, h3, fun i hi => ?_⟩
  obtain ⟨x, hx⟩ := getX (es := L) (i := i) (by omega)
  rw [atB_at hx]
  exact h4 i x hx
theorem InR.row {w : World} {v : Value} {L : List Int} {m : Nat} (h : InR w v L) (hl : L.length = m) (hm : 0 < m) :
    ∃ b off cap, v = .slice (some ⟨b, off, none⟩) m cap ∧ m ≤ cap ∧ cap ≤ 9223372036854775807 ∧ b < w.heap.size ∧ ∀ i : Nat, i < m → w.cell? ⟨b, off + i, none⟩ = some (.int .i64 (atD L (i : Int))) := by
  obtain ⟨b, off, cap, e, h1, h2, h3, h4⟩ := InR.at h (by omega)
  rw [hl] at e h1
  refine ⟨b, off, cap, e, h1, by unfold maxLen at h2; omega, h3, fun i hi => ?_⟩
  obtain ⟨x, hx⟩ := getX (es := L) (i := i) (by omega)
  rw [atD_at hx]
  exact h4 i x hx
/-- What is reached, as a test. -/
theorem reach_at {m : Nat} {es : List Ed} {s v : Int} (hg : InG m es) (hs : 0 ≤ s ∧ s < (m : Int)) (hv : 0 ≤ v ∧ v < (m : Int)) : atB (reachF m es s) v = true ↔ Rch es s v := (reach_ok hg hs).2 v hv
theorem reach_len {m : Nat} {es : List Ed} {s : Int} (hg : InG m es) (hs : 0 ≤ s ∧ s < (m : Int)) : (reachF m es s).length = m := (reach_ok hg hs).1
end Go.Proofs.Ytankibadiomkkab
