/-
  What a full board answers to a report that it has already, with a step and an epoch of its own.
-/
import Derived.Test.YtpikfiegmnmbmaaTallyReady
namespace Go.Proofs.Ytpikfiegmnmbmaa
set_option maxRecDepth 100000

/-- The report with another step and epoch. -/
def atO2 (r : RpL) (e s : Int) : RpL := ⟨r.worker, e, s, r.sent, r.got, r.waking, r.opn⟩
theorem once_in {W : Nat} {l : List TyL} {o : List Int} {r : RpL} {e s : Int} (h : r ∈ repsT W l o W (-1) W) : inR W (atO2 r e s) = true := by
  obtain ⟨i, hi, rfl⟩ := mem_rep h
  exact repT_in (off := -1) (l := l) hi
theorem once_by {W : Nat} {l : List TyL} {o : List Int} {r : RpL} (h : r ∈ repsT W l o W (-1) W) : byB (repsT W l o W (-1) W) r.worker = true := byB_iff.2 ⟨r, h, rfl⟩
theorem once_no {W : Nat} {l : List TyL} {o : List Int} {r : RpL} {e s : Int} (hW : 1 ≤ W ∧ W ≤ 5) (h : r ∈ repsT W l o W (-1) W) (hn : ¬ (s = 3 ∧ e = 2)) : heE (brdT W l o W (-1) W) (atO2 r e s) = 11 := by
  have h1 : stE (brdT W l o W (-1) W) (atO2 r e s) = 11 := by
    unfold stE
    rw [if_pos (show inR (brdT W l o W (-1) W).workers (atO2 r e s) = true from once_in h)]
    exact if_neg fun hh => hn ⟨hh.2, hh.1⟩
  rw [heE_st (brdT_may hW W (Nat.le_refl _)) (by rw [h1]; decide), h1]
theorem once_two {W : Nat} {l : List TyL} {o : List Int} {r : RpL} (hW : 1 ≤ W ∧ W ≤ 5) (h : r ∈ repsT W l o W (-1) W) : heE (brdT W l o W (-1) W) (atO2 r 2 3) = 8 := by
  have h1 : stE (brdT W l o W (-1) W) (atO2 r 2 3) = 0 := by
    unfold stE
    rw [if_pos (show inR (brdT W l o W (-1) W).workers (atO2 r 2 3) = true from once_in h)]
    exact if_pos ⟨rfl, rfl⟩
  exact heE_two (brdT_may hW W (Nat.le_refl _)) h1 (show byB (repsT W l o W (-1) W) r.worker = true from once_by h)
theorem once_bd {b : BdL} {r : RpL} (h : heE b r ≠ 0) : heB b r = bd0 := by
  unfold heB
  exact if_neg h
theorem once_B {W : Nat} {l : List TyL} {o : List Int} {r : RpL} {e s : Int} (hW : W ≤ 5) (h : r ∈ repsT W l o W (-1) W) : RpB (atO2 r e s) := by
  obtain ⟨i, hi, rfl⟩ := mem_rep h
  exact repT_B (off := -1) (l := l) (i := i) hW

end Go.Proofs.Ytpikfiegmnmbmaa
