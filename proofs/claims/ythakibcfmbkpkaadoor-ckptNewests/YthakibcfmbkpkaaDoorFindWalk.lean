/-
  Contracts of disk's find: its closure, slices.IndexFunc over it, and find itself: the place of a file, or -1.
-/
import Derived.Test.YthakibcfmbkpkaaDoorMayBeWalk
namespace Go.Proofs.YthakibcfmbkpkaaDoor
set_option maxRecDepth 100000
open Go.ChangeShapes Go.WideShapes Go.ChangeAt Go.RowKit

set_option maxHeartbeats 400000 in
theorem find1_any (m n : ByteArray) (dv : Value) (s : Int) (a : Option Addr) (l c q : Nat) (hdv : dv = .slice a l c) (w : World) (hq : w.cell? ⟨q, 0, none⟩ = some (.string n)) :
    Calls Tryd.prog 56 #[.agg #[.string m, dv, .int .i64 s], .pointer (some ⟨q, 0, none⟩)] w fun e w' => e = .returned (.bool (m.toList == n.toList)) ∧ Below w.heap.size w w' := by
  subst hdv
  have lq : q < w.heap.size := World.block_lt_of_cell? w _ hq
  have hq2 : ∀ X, (w.alloc X).cell? ⟨q, 0, none⟩ = some (.string n) := fun X => ((below_alloc w X).cell (p := ⟨q, 0, none⟩) lq).trans hq
  go_enter Tryd.func56, Tryd.ntmps56
  go_wp2_with fail
  go_ret
  exact ⟨rfl, below_alloc _ _⟩

set_option maxHeartbeats 800000 in
theorem indexFunc_any (v : Value) (fs : List FileL) (n : ByteArray) (q : Nat) (w : World) (h : DiskR w v fs) (hq : w.cell? ⟨q, 0, none⟩ = some (.string n)) :
    Calls Tryd.prog 55 #[v, .func (.func 56) #[] #[.pointer (some ⟨q, 0, none⟩)]] w fun e w' => e = .returned (.int .i64 (atF fs n)) ∧ Below w.heap.size w w' := by
  have lq : q < w.heap.size := World.block_lt_of_cell? w _ hq
  obtain ⟨a, cap, rfl, hc, hm, ha, hel⟩ := h
  have HEL : Hid (0 < fs.length → ∃ b off, a = some ⟨b, off, none⟩ ∧ b < w.heap.size ∧ ∃ vs : Nat → Value, ∀ i, i < fs.length → FileC w b (off + i * 3) (vs i) (fs.getD i noF)) := hel
  clear ha hel
  unfold maxLen at hm
  go_enter Tryd.func55, Tryd.ntmps55
  go_wp2_with fail
  go_loopw [8] (fun i wr => ∃ k : Nat, k ≤ fs.length ∧ i = .int .i64 k ∧ (∀ j, j < k → (fs.getD j noF).name ≠ n) ∧ Below w.heap.size w wr) (fun i _ => fs.length - (intOf i).toNat)
  case atStart => exact ⟨0, by omega, rfl, fun j hj => by omega, Below.refl _ _⟩
  case round =>
    obtain ⟨k, hk, rfl, hno, hbel⟩ := hrel
    have HNO : Hid (∀ j, j < k → (fs.getD j noF).name ≠ n) := hno
    have HB : Hid (Below w.heap.size w wr) := hbel
    have hqr : wr.cell? ⟨q, 0, none⟩ = some (.string n) := (hbel.cell (p := ⟨q, 0, none⟩) lq).trans hq
    have hsr := hbel.size
    clear hno hbel
    by_cases hlt : k < fs.length
    · obtain ⟨b, off, rfl, lt, vs, hv⟩ := HEL.out (by omega)
      obtain ⟨c1, c2, c3, c4⟩ := (hv k hlt).below HB.out (Nat.le_refl _)
      obtain ⟨da, dc, hdv, _, _, _, _⟩ := c4
      rw [hdv] at c2
      clear hv HEL hdv
      by_cases hn : (fs.getD k noF).name = n
      · have HA : Hid (atF fs n = k) := atF_at hlt hn HNO.out
        have hne := name_yes hn
        clear hn
        generalize fs.getD k noF = f at *
        go_wp2_with fail
        refine (find1_any f.name n _ f.synced da f.data.length dc q rfl _ hqr).mono ?_
        rintro e w2 ⟨rfl, hb2⟩
        rw [hne]
        go_wp2_with fail
        go_ret
        exact ⟨ret_i64 HA.out.symm, HB.out.trans (hb2.mono hsr)⟩
      · have HN2 : Hid (∀ j, j < k + 1 → (fs.getD j noF).name ≠ n) := fun j hj => by
          rcases Nat.lt_succ_iff_lt_or_eq.1 hj with h | h
          · exact HNO.out j h
          · rw [h]; exact hn
        have hne := name_no hn
        clear hn
        generalize fs.getD k noF = f at c1 c2 c3 hne
        go_wp2_with fail
        refine (find1_any f.name n _ f.synced da _ dc q rfl _ hqr).mono ?_
        rintro e w2 ⟨rfl, hb2⟩
        rw [hne]
        go_wp2_with fail
        go_roundw
        case rel => exact ⟨k + 1, by omega, by go_num, HN2.out, HB.out.trans (hb2.mono hsr)⟩
        case measure => simp [intOf]; omega
    · have HA : Hid (atF fs n = -1) := atF_none (fun j hj => HNO.out j (by omega))
      go_wp2_with fail
      go_ret
      exact ⟨ret_i64 HA.out.symm, HB.out⟩

set_option maxHeartbeats 400000 in
theorem find_any (pb : Nat) (v : Value) (fs : List FileL) (n : ByteArray) (w : World) (hp : w.cell? ⟨pb, 0, none⟩ = some v) (h : DiskR w v fs) :
    Calls Tryd.prog 41 #[.pointer (some ⟨pb, 0, none⟩), .string n] w fun e w' => e = .returned (.int .i64 (atF fs n)) ∧ Below w.heap.size w w' := by
  have lp : pb < w.heap.size := World.block_lt_of_cell? w _ hp
  have HD : Hid (DiskR w v fs) := h
  obtain ⟨a, cap, rfl, _, _, _, _⟩ := h
  have hmf : ∀ (fn : Fn) (first cap : Array Value) (w : World), (Instr.makeFunc fn first cap).run Tryd.prog w = .ok (.func fn first cap) w := fun _ _ _ _ => rfl
  have hp2 : ∀ X, (w.alloc X).cell? ⟨pb, 0, none⟩ = some (.slice a fs.length cap) := fun X => ((below_alloc w X).cell (p := ⟨pb, 0, none⟩) lp).trans hp
  go_enter Tryd.func41, Tryd.ntmps41
  go_wp2_with fail
  refine (indexFunc_any _ fs n w.heap.size _ ?_ ?_).mono ?_
  · exact HD.out.below (below_alloc _ _) (Nat.le_refl _)
  · exact cell_new0 _ _ _
  rintro e w2 ⟨rfl, hb2⟩
  have B2 : Hid (Below w.heap.size w w2) := (below_alloc w _).trans (hb2.mono (by simp))
  clear hb2
  go_wp2_with fail
  go_ret
  exact ⟨rfl, B2.out⟩
end Go.Proofs.YthakibcfmbkpkaaDoor
