/-
  The lines of a text, and contracts of sheet's lines and of the function that yields them.
-/
import Derived.Test.YtcfcpibamjgodaaDoorNumbersWalk
import Derived.RangeFuncNested
import Derived.RangeFuncBound
import Derived.RangeFuncCalls
import Derived.RangeFuncLeaves
import Derived.RangeFuncFrom
import Derived.Shelf.Abstract
import Derived.Shelf.RegionOpen
import Derived.WalkKit
import Derived.OwnWalkIn
import Derived.TacticsInMore
import Derived.LoopNIn
import Derived.LoopIn
import Derived.Lib.Hide
namespace Go.Proofs.YtcfcpibamjgodaaDoor
set_option maxRecDepth 100000
open Go.RowKit Go.Shelf
attribute [local go_sem] Oper.semAt_some

/-- A line: a text that is not too long. -/
abbrev Ln := { s : ByteArray // s.size ≤ 20000 }
/-- Its bytes. -/
def lineB (x : Ln) : List UInt8 := x.1.data.toList
/-- The lines of a text: what stands ahead of the next line feed, and so on, k times at most. -/
def linesL : Nat → List UInt8 → List (List UInt8)
  | 0, _ => []
  | k + 1, l => if l = [] then [] else (Lib.cut l [10]).1 :: linesL k (Lib.cut l [10]).2.1

theorem cut_head (l : List UInt8) : (Lib.cut l [10]).1.length ≤ l.length := by
  unfold Lib.cut
  split
  · simp; omega
  · exact Nat.le_refl _
theorem cut_rest {l : List UInt8} (h : l ≠ []) : (Lib.cut l [10]).2.1.length < l.length := by
  have : 0 < l.length := List.length_pos_iff.2 h
  unfold Lib.cut
  split
  · simp; omega
  · simpa using this

/-- For the loop's measure. -/
def strLen : Value → Nat
  | .string R => R.size
  | _ => 0
theorem str_ne {R : ByteArray} (h : 0 < R.size) : R.data.toList ≠ [] := by
  intro e
  have h2 : R.size = R.data.toList.length := (Array.length_toList (xs := R.data)).symm
  rw [e] at h2
  rw [h2] at h
  exact absurd h (by decide)

theorem str_no {R : ByteArray} (h : 0 < R.size) : R.toList.isEmpty = false := by
  cases hh : R.toList with
  | nil =>
    exfalso
    rw [Lib.toList_data] at hh
    exact str_ne h hh
  | cons a r => rfl

set_option maxHeartbeats 2000000 in
/-- The function that yields the lines of s, for every loop body that keeps what lay below n₀. -/
theorem yields_in (l Bs n₀ : Nat) (s : ByteArray) (m : Int) (J Jx : List Ln → World → Prop) (hn₀ : 2 ≤ n₀) (hs : s.size ≤ 20000)
    (hY : ∀ pre x W, J pre W → pre.length < s.size → YieldAt Fence.wide (4 - 1) Tryd.prog l #[.string x.1] W fun e W' =>
      (e = .returned (.bool true) ∧ J (pre ++ [x]) W' ∧ Below n₀ W W') ∨ (e = .returned (.bool false) ∧ Jx (pre ++ [x]) W'))
    (W : World) (hJ : AbidesFrom W.heap.size J) (hB : W.cell? ⟨Bs, 0, none⟩ = some (.string s)) (hm : W.cell? ⟨1, 0, none⟩ = some (.int .i64 m)) (h0 : J [] W) :
    CallsIn Fence.wide 4 Tryd.prog 36 #[.func (.yield l) #[] #[], .pointer (some ⟨Bs, 0, none⟩)] W fun e W' => (∃ v, e = .returned v) ∧
      ((∃ xs : List Ln, xs.map lineB = linesL s.size s.data.toList ∧ J xs W') ∨ (∃ pre : List Ln, True ∧ Jx pre W')) := by
  refine callsIn_of_wp Tryd.func36 rfl trivial ?_ rfl
  simp only [Tryd.ntmps36, List.size_toArray, List.length_cons, List.length_nil, Nat.reduceAdd, Nat.reduceSub, Array.replicate_succ, Array.replicate_zero, List.push_toArray, List.append_toArray, List.nil_append, List.cons_append]
  gi_wp2
  gi_loopw [3] (fun p wr => ∃ (pre : List Ln) (fuel : Nat) (R : ByteArray), p = .string R ∧ R.size ≤ fuel ∧ pre.length + R.size ≤ s.size ∧ pre.map lineB ++ linesL fuel R.data.toList = linesL s.size s.data.toList ∧ wr.cell? ⟨1, 0, none⟩ = some (.int .i64 m) ∧ J pre wr)
    (fun p _ => strLen p)
  case atStart => exact ⟨[], s.size, s, rfl, Nat.le_refl _, by simp, by simp, hm, h0⟩
  case round =>
    obtain ⟨pre, fuel, R, rfl, hfu, hlen, hl, hmr, hJr⟩ := hrel
    by_cases h0R : R.size = 0
    · have e0 : R = ⟨#[]⟩ := by
        apply ByteArray.ext
        exact Array.eq_empty_of_size_eq_zero h0R
      subst e0
      gi_wp2
      go_end0
      refine ⟨⟨_, rfl⟩, .inl ⟨pre, ?_, hJr⟩⟩
      have e1 : linesL fuel (⟨#[]⟩ : ByteArray).data.toList = [] := by cases fuel <;> rfl
      rw [e1, List.append_nil] at hl
      exact hl
    · have hpos : 0 < R.size := by omega
      have hne : R.toList.isEmpty = false := str_no hpos
      have HC := Tryd.strings_Cut R ⟨#[10]⟩ m wr (by omega) hmr
      rw [show (⟨#[10]⟩ : ByteArray).data.toList = [10] from rfl] at HC
      obtain ⟨C1, hC1⟩ : ∃ C1 : ByteArray, C1 = ⟨(Lib.cut R.data.toList [10]).1.toArray⟩ := ⟨_, rfl⟩
      obtain ⟨C2, hC2⟩ : ∃ C2 : ByteArray, C2 = ⟨(Lib.cut R.data.toList [10]).2.1.toArray⟩ := ⟨_, rfl⟩
      rw [← hC1, ← hC2] at HC
      have hRl : R.data.toList.length = R.size := Array.length_toList
      have s1 : C1.size ≤ R.size := by rw [hC1, bytes_size, ← hRl]; exact cut_head _
      have s2 : C2.size < R.size := by rw [hC2, bytes_size, ← hRl]; exact cut_rest (str_ne hpos)
      have HL : Hid (linesL (fuel - 1 + 1) R.data.toList = C1.data.toList :: linesL (fuel - 1) C2.data.toList) := by
        show _ = _
        rw [hC1, hC2]
        simp only [linesL, if_neg (str_ne hpos)]
      have HL0 : Hid (pre.map lineB ++ linesL fuel R.data.toList = linesL s.size s.data.toList) := hl
      clear hC1 hC2 hl
      generalize (Lib.cut R.data.toList [10]).2.2 = cb at HC
      obtain ⟨x, hx⟩ : ∃ x : Ln, x.1 = C1 := ⟨⟨C1, by omega⟩, rfl⟩
      gi_wp2_with (refine ⟨trivial, ?_⟩; gi_at_call 37; refine (callsIn_wide.2 HC).mono ?_; rintro e w1 ⟨rfl, nd, rfl⟩; refine Hid.out ?_)
      have hJ2 : J pre (wr.drewN nd) := hJ pre wr _ none hJr ⟨rfl, rfl, rfl, Nat.le_refl _, fun _ _ _ => rfl⟩ (fun r e => by cases e)
      obtain ⟨fn, tmps, assign, body, hy, hR⟩ := hY pre x (wr.drewN nd) hJ2 (by omega)
      rw [hx] at hy
      have hmd : (wr.drewN nd).cell? ⟨1, 0, none⟩ = some (.int .i64 m) := hmr
      generalize wr.drewN nd = w2 at hJ2 hy hR hmd ⊢
      refine Lib.hid ?_
      gi_wp2
      refine hR.mono ?_
      rintro e W3 (⟨rfl, hJ3, hk3⟩ | ⟨rfl, hJx3⟩)
      · have hm3 : W3.cell? ⟨1, 0, none⟩ = some (.int .i64 m) := (hk3.cell (p := ⟨1, 0, none⟩) (Nat.lt_of_lt_of_le (by decide) hn₀)).trans hmd
        gi_wp2
        go_roundw
        case rel =>
          refine ⟨pre ++ [x], fuel - 1, C2, rfl, by omega, by simp; omega, ?_, hm3, hJ3⟩
          rw [← HL0.out, ← show fuel - 1 + 1 = fuel by omega, HL.out]
          simp [lineB, hx]
        case measure =>
          simp [strLen]
          exact s2
      · gi_wp2
        refine bodyPost_ret (results_none rfl _ _ _) rfl ?_
        exact ⟨⟨_, rfl⟩, .inr ⟨pre ++ [x], trivial, hJx3⟩⟩

/-- sheet.lines hands back a value that yields the lines. -/
theorem lines_in (s : ByteArray) (w : World) :
    Calls Tryd.prog 30 #[.string s] w fun e w' => e = .returned (.func (.func 36) #[] #[.pointer (some ⟨w.heap.size, 0, none⟩)]) ∧ w' = w.alloc (.cells #[.string s] 9) := by
  go_enter Tryd.func30, Tryd.ntmps30
  go_wp2
  go_ret
  exact ⟨rfl, rfl⟩
theorem lines_stops (Bs n₀ : Nat) (s : ByteArray) (m : Int) (hn₀ : 2 ≤ n₀) (hs : s.size ≤ 20000) (w : World) (hB : w.cell? ⟨Bs, 0, none⟩ = some (.string s)) (hm : w.cell? ⟨1, 0, none⟩ = some (.int .i64 m)) :
    SeqStopsK Fence.wide 4 Tryd.prog 36 #[.pointer (some ⟨Bs, 0, none⟩)] (fun x : Ln => #[.string x.1]) (Below n₀) (fun xs => xs.map lineB = linesL s.size s.data.toList) (fun _ => True) s.size w := fun l J Jx W hW hJ _ hY h0 =>
  yields_in l Bs n₀ s m J Jx hn₀ hs hY W hJ ((hW.cell (p := ⟨Bs, 0, none⟩) (World.block_lt_of_cell? w _ hB)).trans hB) ((hW.cell (p := ⟨1, 0, none⟩) (World.block_lt_of_cell? w _ hm)).trans hm) h0
end Go.Proofs.YtcfcpibamjgodaaDoor
