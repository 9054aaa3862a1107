/-
  Contracts of the document's own In and FileAt.
-/
import Derived.Test.YthakibcfmbkpkaaDoorDiskMath
import Derived.Test.YthakibcfmbkpkaaDoorInWalk
namespace Go.Proofs.YthakibcfmbkpkaaDoor
set_option maxRecDepth 100000
open Go.ChangeShapes Go.WideShapes Go.ChangeAt Go.RowKit

theorem inB_yes {n lo hi : Int} (h : lo ≤ n ∧ n ≤ hi) : inB n lo hi = true := in_yes h
theorem inB_no {n lo hi : Int} (h : ¬ (lo ≤ n ∧ n ≤ hi)) : inB n lo hi = false := in_no h

set_option maxHeartbeats 400000 in
theorem fileAt_any (v : Value) (fs : List FileL) (n : ByteArray) (w : World) (h : DiskR w v fs) :
    Calls Tryd.prog 38 #[.agg #[v], .string n] w fun e w' => e = .returned (.int .i64 (atF fs n)) ∧ Below w.heap.size w w' := by
  obtain ⟨a, cap, rfl, hc, hm, ha, hel⟩ := h
  have HEL : Hid (0 < fs.length → ∃ b off, a = some ⟨b, off, none⟩ ∧ b < w.heap.size ∧ ∃ vs : Nat → Value, ∀ i, i < fs.length → FileC w b (off + i * 3) (vs i) (fs.getD i noF)) := hel
  clear ha hel
  unfold maxLen at hm
  go_enter Tryd.func38, Tryd.ntmps38
  go_wp2_with fail
  go_loop [5] (fun i => ∃ k : Nat, k ≤ fs.length ∧ i = .int .i64 k ∧ ∀ j, j < k → (fs.getD j noF).name ≠ n) (fun i => fs.length - (intOf i).toNat)
  case atStart => exact ⟨0, by omega, rfl, fun j hj => by omega⟩
  case round =>
    obtain ⟨k, hk, rfl, hno⟩ := hrel
    have HNO : Hid (∀ j, j < k → (fs.getD j noF).name ≠ n) := hno
    clear hno
    by_cases hlt : k < fs.length
    · obtain ⟨b, off, rfl, lt, vs, hv⟩ := HEL.out (by omega)
      obtain ⟨c1, c2, c3, c4⟩ := (hv k hlt).below (below_alloc w (.cells #[.slice (some ⟨b, off, none⟩) fs.length cap] 24)) (Nat.le_refl _)
      clear c2 c3 c4 hv HEL
      by_cases hn : (fs.getD k noF).name = n
      · have HA : Hid (atF fs n = k) := atF_at hlt hn HNO.out
        have hne := name_yes hn
        clear hn
        generalize fs.getD k noF = f at *
        go_wp2_with fail
        go_ret
        exact ⟨ret_i64 HA.out.symm, below_alloc _ _⟩
      · have HN2 : Hid (∀ j, j < k + 1 → (fs.getD j noF).name ≠ n) := fun j hj => by
          rcases Nat.lt_succ_iff_lt_or_eq.1 hj with h | h
          · exact HNO.out j h
          · rw [h]; exact hn
        have hne := name_no hn
        clear hn
        generalize fs.getD k noF = f at c1 hne
        go_wp2_with fail
        go_round
        case rel => exact ⟨k + 1, by omega, by go_num, HN2.out⟩
        case measure => simp [intOf]; omega
    · have HA : Hid (atF fs n = -1) := atF_none (fun j hj => HNO.out j (by omega))
      go_wp2_with fail
      go_ret
      exact ⟨ret_i64 HA.out.symm, below_alloc _ _⟩
end Go.Proofs.YthakibcfmbkpkaaDoor
