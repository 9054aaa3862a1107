/-
  Contracts of frame.eightBits and newTable: what eight bits do to a register; a new array of 256 numbers that tells it of each value.
-/
import Derived.Test.YtkgdenbabafeoaaGreatDoorSame
import Derived.Test.YtkgdenbabafeoaaGreatDoorCrc
namespace Go.Proofs.YtkgdenbabafeoaaGreatDoor
set_option maxRecDepth 100000
open Go.ChangeShapes Go.WideShapes Go.ChangeAt Go.RowKit

theorem and1 (r : Nat) (h : r < 4294967296) : bits .and .u32 (r : Int) 1 = ((r % 2 : Nat) : Int) := by
  have := u32_and_nat r 1 h (by decide)
  rw [nat_mask1] at this
  exact this
theorem xorP (r : Nat) (h : r < 4294967296) : bits .xor .u32 (r : Int) 3988292384 = ((r ^^^ 3988292384 : Nat) : Int) := u32_xor_nat r 3988292384 h (by decide)

set_option maxHeartbeats 400000 in
theorem eightBits_any (r : Nat) (w : World) (h : r < 4294967296) :
    Calls Tryz.prog 67 #[.int .u32 r] w fun e w' => e = .returned (.int .u32 (eight r)) ∧ w' = w := by
  go_enter Tryz.func67, Tryz.ntmps67
  go_wp2_with fail
  go_loop [0, 4] (fun n i => ∃ (k : Nat), k ≤ 8 ∧ i = .int .i64 k ∧ n = .int .u32 (shN k r)) (fun _ i => 8 - (intOf i).toNat)
  case atStart => exact ⟨0, by omega, rfl, rfl⟩
  case round =>
    obtain ⟨k, hk, rfl, rfl⟩ := hrel
    have HS : Hid (shN (k + 1) r = sh (shN k r)) := rfl
    have HE : Hid (k = 8 → eight r = shN k r) := fun e => by subst e; rfl
    have hlt := shN_lt h k
    generalize shN k r = s at *
    have ha := and1 s hlt
    have hx := xorP (s / 2) (by omega)
    by_cases hb : s % 2 = 1
    · rw [hb] at ha
      have HQ : Hid (sh s = s / 2 ^^^ 3988292384) := if_pos hb
      clear hb
      by_cases h8 : k < 8
      · go_wp2_with fail
        go_round
        case rel => exact ⟨k + 1, by omega, by go_num, by rw [HS.out, HQ.out]; simp only [Value.int.injEq, true_and]; exact hx⟩
        case measure => simp [intOf]; omega
      · go_wp2_with fail
        go_ret
        exact ⟨by rw [HE.out (by omega)]; rfl, rfl⟩
    · have hb0 : s % 2 = 0 := by omega
      rw [hb0] at ha
      have HQ : Hid (sh s = s / 2) := if_neg hb
      clear hb hb0
      by_cases h8 : k < 8
      · go_wp2_with fail
        go_round
        case rel => exact ⟨k + 1, by omega, by go_num, by rw [HS.out, HQ.out]; simp⟩
        case measure => simp [intOf]; omega
      · go_wp2_with fail
        go_ret
        exact ⟨by rw [HE.out (by omega)]; rfl, rfl⟩
theorem Tryz.infoTab : (Tryz.prog.info? 118).map (fun i => i.zero) = some (some (.agg (Array.replicate 256 (.int .u32 0)))) := by kernel_rfl
theorem zeroTab : ∃ Z : Array Value, Z.size = 256 ∧ (∀ j, j < 256 → Z[j]? = some (.int .u32 0)) ∧ ∀ w, (zeroValue 118).run Tryz.prog w = .ok (.agg Z) w := by
  refine ⟨Array.replicate 256 (.int .u32 0), by simp, fun j hj => by simp [hj], fun w => ?_⟩
  have h := Tryz.infoTab
  cases hi : Tryz.prog.info? 118 with
  | none => rw [hi] at h; simp at h
  | some i =>
    rw [hi] at h
    simp only [Option.map_some, Option.some.injEq] at h
    simp [zeroValue, typeInfo, hi, h]

/-- The first k numbers of the table in the block g are laid; the others are 0. -/
def TabTo (k : Nat) (w : World) (g : Nat) : Prop := ∀ j, j < 256 → w.cell? ⟨g, j, none⟩ = some (.int .u32 (if j < k then (eight j : Int) else 0)) ∧ w.frozen? ⟨g, j, none⟩ = false
/-- The block g holds the whole table. -/
def Tab (w : World) (g : Nat) : Prop := ∀ j, j < 256 → w.cell? ⟨g, j, none⟩ = some (.int .u32 (eight j))
theorem TabTo.step {k : Nat} {w : World} {g : Nat} (h : TabTo k w g) (hk : k < 256) : TabTo (k + 1) (w.setCell ⟨g, k, none⟩ (.int .u32 (eight k))) g := by
  intro j hj
  refine ⟨?_, by rw [World.frozen?_setCell]; exact (h j hj).2⟩
  by_cases e : j = k
  · subst e
    rw [World.cell?_setCell_same _ _ _ (h j hj).1, if_pos (by omega)]
  · rw [World.cell?_setCell_other _ _ _ _ (by intro hh; injection hh with _ hh2; exact e hh2.symm), (h j hj).1]
    by_cases h1 : j < k
    · rw [if_pos h1, if_pos (by omega)]
    · rw [if_neg h1, if_neg (by omega)]
theorem TabTo.start (w : World) (Z : Array Value) (t : TypeId) (hZ : ∀ j, j < 256 → Z[j]? = some (.int .u32 0)) : TabTo 0 (w.alloc (.cells Z t)) w.heap.size := by
  intro j hj
  refine ⟨?_, ?_⟩
  · have h1 := heap_alloc_new w (.cells Z t)
    simp only [World.cell?, h1]
    simp [hZ j hj]
  · have h1 := heap_alloc_new w (.cells Z t)
    simp only [World.frozen?, h1]
    simp
theorem Tab.below {w w' : World} {g B : Nat} (h : Tab w g) (hb : Below B w w') (hB : w.heap.size ≤ B) : Tab w' g := fun j hj =>
  (hb.cell (Nat.lt_of_lt_of_le (World.block_lt_of_cell? w _ (h j hj)) hB)).trans (h j hj)

set_option maxHeartbeats 400000 in
set_option maxRecDepth 100000 in
theorem newTable_any (w : World) :
    Calls Tryz.prog 43 #[] w fun e w' => e = .returned (.pointer (some ⟨w.heap.size, 0, none⟩)) ∧ Tab w' w.heap.size ∧ Below w.heap.size w w' ∧ w.heap.size < w'.heap.size := by
  obtain ⟨Z, _, hZ, hz⟩ := zeroTab
  have HT : Hid (TabTo 0 (w.alloc (.cells Z 118)) w.heap.size) := TabTo.start w Z 118 hZ
  clear hZ
  go_enter Tryz.func43, Tryz.ntmps43
  go_wp2_with fail
  go_loopw [3] (fun i wr => ∃ k : Nat, k ≤ 256 ∧ i = .int .i64 k ∧ TabTo k wr w.heap.size ∧ Below w.heap.size w wr) (fun i _ => 256 - (intOf i).toNat)
  case atStart => exact ⟨0, by omega, rfl, HT.out, (Below.refl _ _).alloc (Nat.le_refl _) _⟩
  case round =>
    obtain ⟨k, hk, rfl, htab, hbel⟩ := hrel
    have HTab : Hid (TabTo k wr w.heap.size) := htab
    clear htab
    by_cases h8 : k < 256
    · have hc := (HTab.out k h8).1
      rw [if_neg (by omega)] at hc
      have hf := (HTab.out k h8).2
      go_wp2_with (go_at_call 67; refine (eightBits_any k _ (by omega)).mono ?_; rintro e w' ⟨rfl, rfl⟩)
      go_roundw
      case rel => exact ⟨k + 1, by omega, by go_num, HTab.out.step h8, hbel.setCell (Nat.le_refl _) _⟩
      case measure => simp [intOf]; omega
    · go_wp2_with fail
      go_ret
      refine ⟨rfl, ?_, hbel, ?_⟩
      · intro j hj
        have h1 := (HTab.out j hj).1
        rwa [if_pos (by omega)] at h1
      · exact World.block_lt_of_cell? _ _ (HTab.out 0 (by omega)).1
end Go.Proofs.YtkgdenbabafeoaaGreatDoor
