/-
  What Wake of Strong answers in the phase Back, of small values.
-/
import Derived.Test.YtokbfgopemgbcaaProgFace
import Derived.Test.YtokbfgopemgbcaaKeepVals
import Derived.Test.YtokbfgopemgbcaaHereMath
namespace Go.Proofs.Ytokbfgopemgbcaa
set_option maxRecDepth 100000
open Go.ChangeShapes Go.WideShapes Go.ChangeAt Go.RowKit

theorem wake_back {v a l : Int} {b : Bool} {m : List Int} (hv : 0 ≤ v ∧ v < 20) (ha : 0 ≤ a ∧ a < 20) (hl : -1 ≤ l ∧ l < 20) (hm : ∀ y ∈ m, 0 ≤ y ∧ y < 20) :
    wakeF 3 v 0 (a, l) 1 b m = ⟨(wakeV (true, true) v 0 (a, l) b m).1, (wakeV (true, true) v 0 (a, l) b m).2, 0⟩ := by
  have hmb : mailB (true, true) m = true := mailB_iff.2 fun y hy => ⟨(hm y hy).1, by
    have h1 := (hm y hy).2
    have h2 : Jb.top (true, true) = 199 := rfl
    omega⟩
  have hvb : valB (true, true) (a, l) = true := by
    have h2 : Jb.top (true, true) = 199 := rfl
    unfold valB
    rw [h2, in_yes (v := a) (a := -1) (b := 199) ⟨by omega, by omega⟩, in_yes (v := l) (a := -1) (b := 199) ⟨by omega, by omega⟩]
    rfl
  have hvv : inB v 0 199 = true := in_yes ⟨hv.1, by omega⟩
  show wakeF (Jb.k (true, true)) v 0 (a, l) (Jb.p (true, true)) b m = _
  rw [wakeF_of]
  unfold wakeJ
  rw [hvv, hvb, hmb]
  rfl
theorem wake_label {v a : Int} {b : Bool} {m : List Int} (hv : 0 ≤ v ∧ v < 20) (ha : 0 ≤ a ∧ a < 20) (hm : ∀ y ∈ m, 0 ≤ y ∧ y < 20) :
    wakeF 3 v 0 (a, -1) 1 b m = ⟨(a, if hereB b (a, -1) v m then a else -1), hereB b (a, -1) v m, 0⟩ := by
  rw [wake_back hv ha ⟨by omega, by omega⟩ hm, back_eq rfl]
  cases h : hereB b (a, -1) v m <;> rfl
theorem wake_again {v a : Int} {b : Bool} {m : List Int} (hv : 0 ≤ v ∧ v < 20) (ha : 0 ≤ a ∧ a < 20) (hm : ∀ y ∈ m, 0 ≤ y ∧ y < 20) :
    wakeF 3 v 0 (a, a) 1 b m = ⟨(a, a), false, 0⟩ := by
  rw [wake_back hv ha ⟨by omega, by omega⟩ hm, strong_stays (show ¬ (a, a).2 = -1 by simp only; omega)]
end Go.Proofs.Ytokbfgopemgbcaa
