/-
  Contract of paths.nones.
-/
import Derived.Test.YtankibadiomkkabNumsMake
import Derived.Test.YtankibadiomkkabIntRow
namespace Go.Proofs.Ytankibadiomkkab
set_option maxRecDepth 100000
open Go.ChangeShapes Go.WideShapes Go.ChangeAt Go.RowKit

/-- The first k are set. -/
def partN (m k : Nat) : List Int := List.replicate k (-1) ++ List.replicate (m - k) 0
theorem partN_len {m k : Nat} (h : k ≤ m) : (partN m k).length = m := by simp [partN]; omega
theorem partN_zero (m : Nat) : partN m 0 = List.replicate m 0 := by simp [partN]
theorem partN_all (m : Nat) : partN m m = List.replicate m (-1) := by simp [partN]
theorem partN_next {m k : Nat} (h : k < m) : (partN m k).set k (-1) = partN m (k + 1) := by
  unfold partN
  obtain ⟨d, hd⟩ : ∃ d, m - k = d + 1 := ⟨m - k - 1, by omega⟩
  rw [hd, show m - (k + 1) = d by omega, List.set_append_right _ _ (by simp), List.replicate_succ (n := d), List.replicate_succ' (n := k)]
  simp
theorem partN_at {m k : Nat} (h : k < m) : (partN m k)[k]? = some 0 := by
  unfold partN
  rw [List.getElem?_append_right (by simp), List.length_replicate, Nat.sub_self, List.getElem?_replicate, if_pos (by omega)]

set_option maxHeartbeats 1000000 in
set_option maxRecDepth 100000 in
theorem nones_any (m : Nat) (w : World) (hm : m ≤ 200) :
    Calls Try.prog 16 #[.int .i64 (m : Int)] w fun e w' => e = .returned (.slice (some ⟨w.heap.size, 0, none⟩) m m) ∧ w'.ownsRow w.heap.size 3 1 (.slice (some ⟨w.heap.size, 0, none⟩) m m) m ((List.replicate m (-1 : Int)).flatMap encI) ∧ Below w.heap.size w w' := by
  obtain ⟨w1, hmk, ho1, hb1⟩ := make_ints w m (by omega)
  have O1 : Hid (w1.ownsRow w.heap.size 3 1 (.slice (some ⟨w.heap.size, 0, none⟩) m m) m ((partN m 0).flatMap encI)) := by
    show World.ownsRow _ _ _ _ _ _ _
    rw [partN_zero]; exact ho1
  have B1 : Hid (Below w.heap.size w w1) := hb1
  clear ho1 hb1
  go_enter Try.func16, Try.ntmps16
  go_wp2_with fail
  go_loopw [9] (fun i wr => ∃ k : Nat, k ≤ m ∧ i = .int .i64 k ∧ wr.ownsRow w.heap.size 3 1 (.slice (some ⟨w.heap.size, 0, none⟩) m m) m ((partN m k).flatMap encI) ∧ Below w.heap.size w wr) (fun i _ => m - (intOf i).toNat)
  case atStart => exact ⟨0, by omega, rfl, O1.out, B1.out⟩
  case round =>
    obtain ⟨k, hk, rfl, hown, hbel⟩ := hrel
    have OW : Hid (wr.ownsRow w.heap.size 3 1 (.slice (some ⟨w.heap.size, 0, none⟩) m m) m ((partN m k).flatMap encI)) := hown
    have BW : Hid (Below w.heap.size w wr) := hbel
    clear hown hbel
    by_cases hlt : k < m
    · have c0 := own_atN OW.out (partN_at hlt)
      have f0 := frozenK OW.out k
      have p0 : (0 : Int) ≤ (k : Int) := by omega
      have p1 : (k : Int) < (m : Int) := by omega
      have ON : Hid ((wr.setCell ⟨w.heap.size, k, none⟩ (.int .i64 (-1))).ownsRow w.heap.size 3 1 (.slice (some ⟨w.heap.size, 0, none⟩) m m) m ((partN m (k + 1)).flatMap encI)) := by
        show World.ownsRow _ _ _ _ _ _ _
        rw [← partN_next hlt]
        exact own_setN OW.out
      have BN : Hid (Below w.heap.size w (wr.setCell ⟨w.heap.size, k, none⟩ (.int .i64 (-1)))) := BW.out.setCell (Nat.le_refl _) _
      go_wp2_with fail
      go_roundw
      case rel => exact ⟨k + 1, by omega, by go_num, ON.out, BN.out⟩
      case measure => simp [intOf]; omega
    · have ek : k = m := by omega
      subst ek
      have OE : Hid (wr.ownsRow w.heap.size 3 1 (.slice (some ⟨w.heap.size, 0, none⟩) k k) k ((List.replicate k (-1 : Int)).flatMap encI)) := by
        show World.ownsRow _ _ _ _ _ _ _
        rw [← partN_all]; exact OW.out
      go_wp2_with fail
      go_ret
      exact ⟨rfl, OE.out, BW.out⟩
end Go.Proofs.Ytankibadiomkkab
