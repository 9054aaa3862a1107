/-
  The lines of a text, with their line feeds: contracts of play's lines and of the function that yields them.
-/
import Derived.Test.YtdeghndcglgfkaaDoorPlayGuess
import Derived.RangeFuncNested
import Derived.RangeFuncBound
import Derived.RangeFuncCalls
import Derived.RangeFuncLeaves
import Derived.RangeFuncFrom
import Derived.Shelf.Abstract
import Derived.Shelf.RegionOpen
import Derived.WalkKit
import Derived.OwnWalkIn
import Derived.TacticsInMore
import Derived.LoopNIn
import Derived.LoopIn
import Derived.Lib.Hide
namespace Go.Proofs.YtdeghndcglgfkaaDoor
set_option maxRecDepth 100000
open Go.RowKit Go.Shelf
attribute [local go_sem] Oper.semAt_some

/-- A line: a text that is not too long. -/
abbrev Ln := { s : ByteArray // s.size ≤ 5000000 }
/-- Its bytes. -/
def lineB (x : Ln) : List UInt8 := x.1.data.toList
/-- For the loop's measure. -/
def strLen : Value → Nat
  | .string R => R.size
  | _ => 0
theorem strL_ne {R : ByteArray} (h : 0 < R.size) : R.data.toList ≠ [] := by
  intro e
  have h2 : R.size = R.data.toList.length := (Array.length_toList (xs := R.data)).symm
  rw [e] at h2
  rw [h2] at h
  exact absurd h (by decide)
theorem strL_no {R : ByteArray} (h : 0 < R.size) : R.toList.isEmpty = false := by
  cases hh : R.toList with
  | nil =>
    exfalso
    rw [Lib.toList_data] at hh
    exact strL_ne h hh
  | cons a r => rfl
theorem ext_take (R : ByteArray) (n : Nat) : (R.extract 0 n).data.toList = R.data.toList.take n := by
  simp [ByteArray.data_extract, List.extract]
theorem ext_drop (R : ByteArray) (n : Nat) : (R.extract n R.size).data.toList = R.data.toList.drop n := by
  have h : R.size = R.data.toList.length := (Array.length_toList (xs := R.data)).symm
  rw [ByteArray.data_extract, Array.toList_extract, List.extract_eq_drop_take', h]
  rw [List.take_length]

set_option maxHeartbeats 2000000 in
/-- The function that yields the lines of s, for every loop body that keeps what lay below n₀. -/
theorem yields_in (l Bs n₀ : Nat) (s : ByteArray) (J Jx : List Ln → World → Prop) (hs : s.size ≤ 5000000)
    (hY : ∀ pre x W, J pre W → pre.length < s.size → YieldAt Fence.wide (4 - 1) Tryd.prog l #[.string x.1] W fun e W' =>
      (e = .returned (.bool true) ∧ J (pre ++ [x]) W' ∧ Below n₀ W W') ∨ (e = .returned (.bool false) ∧ Jx (pre ++ [x]) W'))
    (W : World) (hB : W.cell? ⟨Bs, 0, none⟩ = some (.string s)) (h0 : J [] W) :
    CallsIn Fence.wide 4 Tryd.prog 28 #[.func (.yield l) #[] #[], .pointer (some ⟨Bs, 0, none⟩)] W fun e W' => (∃ v, e = .returned v) ∧
      ((∃ xs : List Ln, xs.map lineB = pcs s.size s.data.toList ∧ J xs W') ∨ (∃ pre : List Ln, (∃ r, pre.map lineB ++ r = pcs s.size s.data.toList) ∧ Jx pre W')) := by
  refine callsIn_of_wp Tryd.func28 rfl trivial ?_ rfl
  simp only [Tryd.ntmps28, List.size_toArray, List.length_cons, List.length_nil, Nat.reduceAdd, Nat.reduceSub, Array.replicate_succ, Array.replicate_zero, List.push_toArray, List.append_toArray, List.nil_append, List.cons_append]
  gi_wp2
  gi_loopw [3] (fun p wr => ∃ (pre : List Ln) (fuel : Nat) (R : ByteArray), p = .string R ∧ R.size ≤ fuel ∧ pre.length + R.size ≤ s.size ∧ pre.map lineB ++ pcs fuel R.data.toList = pcs s.size s.data.toList ∧ J pre wr)
    (fun p _ => strLen p)
  case atStart => exact ⟨[], s.size, s, rfl, Nat.le_refl _, by simp, by simp, h0⟩
  case round =>
    obtain ⟨pre, fuel, R, rfl, hfu, hlen, hl, hJr⟩ := hrel
    by_cases h0R : R.size = 0
    · have e0 : R = ⟨#[]⟩ := by
        apply ByteArray.ext
        exact Array.eq_empty_of_size_eq_zero h0R
      subst e0
      gi_wp2
      go_end0
      refine ⟨⟨_, rfl⟩, .inl ⟨pre, ?_, hJr⟩⟩
      have e1 : pcs fuel (⟨#[]⟩ : ByteArray).data.toList = [] := by cases fuel <;> rfl
      rw [e1, List.append_nil] at hl
      exact hl
    · have hpos : 0 < R.size := by omega
      have hne : R.toList.isEmpty = false := strL_no hpos
      have HC := Tryd.strings_IndexByte R 10 wr
      rw [show (10 : Int).toNat.toUInt8 = 10 from rfl] at HC
      have hRl : R.data.toList.length = R.size := Array.length_toList
      have i1 := ixb_lt 10 R.data.toList
      have i2 := Lib.indexByte_ge R.data.toList 10
      have HNX : Hid (nxtL R.data.toList = if Lib.indexByte R.data.toList 10 + 1 = 0 then R.data.toList.length else (Lib.indexByte R.data.toList 10 + 1).toNat) := (rfl : nxtL R.data.toList = _)
      obtain ⟨b1, b2⟩ := nxt_bound (strL_ne hpos)
      have HL : Hid (pcs (fuel - 1 + 1) R.data.toList = R.data.toList.take (nxtL R.data.toList) :: pcs (fuel - 1) (R.data.toList.drop (nxtL R.data.toList))) := by
        show _ = _
        simp only [pcs, if_neg (strL_ne hpos)]
      have HL0 : Hid (pre.map lineB ++ pcs fuel R.data.toList = pcs s.size s.data.toList) := hl
      obtain ⟨x, hx⟩ : ∃ x : Ln, x.1 = R.extract 0 (nxtL R.data.toList) := ⟨⟨R.extract 0 (nxtL R.data.toList), by rw [ByteArray.size_extract]; omega⟩, rfl⟩
      have HXB : Hid (lineB x = R.data.toList.take (nxtL R.data.toList)) := by show x.1.data.toList = _; rw [hx, ext_take]
      have HDR : Hid ((R.extract (nxtL R.data.toList) R.size).data.toList = R.data.toList.drop (nxtL R.data.toList) ∧ (R.extract (nxtL R.data.toList) R.size).size < R.size ∧ pre.length + 1 + (R.extract (nxtL R.data.toList) R.size).size ≤ s.size) := ⟨ext_drop R _, by rw [ByteArray.size_extract]; omega, by rw [ByteArray.size_extract]; omega⟩
      rw [hRl] at HNX i1 b2
      generalize nxtL R.data.toList = nx at *
      generalize Lib.indexByte R.data.toList 10 = ix at *
      clear hl
      by_cases hz : ix + 1 = 0
      · have hnx : nx = R.size := by have := HNX.out; rw [if_pos hz] at this; exact this
        subst hnx
        obtain rfl : ix = -1 := by omega
        clear HNX hz
        rw [show R.extract R.size R.size = ByteArray.empty by simp] at HDR
        gi_wp2_with (refine ⟨trivial, ?_⟩; gi_at_call 29; refine (callsIn_wide.2 HC).mono ?_; rintro e w1 ⟨rfl, hw⟩; rw [hw]; refine Hid.out ?_)
        obtain ⟨fn, tmps, assign, body, hy, hR⟩ := hY pre x wr hJr (by omega)
        rw [hx, show R.extract 0 R.size = R by simp] at hy
        clear HC hx
        refine Lib.hid ?_
        gi_wp2
        refine hR.mono ?_
        rintro e W3 (⟨rfl, hJ3, hk3⟩ | ⟨rfl, hJx3⟩)
        · gi_wp2
          go_roundw
          case rel =>
            refine ⟨pre ++ [x], fuel - 1, ByteArray.empty, rfl, by have := HDR.out.2.1; omega, by have := HDR.out.2.2; simp; omega, ?_, hJ3⟩
            rw [← HL0.out, ← show fuel - 1 + 1 = fuel by omega, HL.out, HDR.out.1]
            simp [HXB.out]
          case measure =>
            simp only [strLen]
            exact HDR.out.2.1
        · gi_wp2
          refine bodyPost_ret (results_none rfl _ _ _) rfl ?_
          refine ⟨⟨_, rfl⟩, .inr ⟨pre ++ [x], ⟨pcs (fuel - 1) (R.data.toList.drop R.size), ?_⟩, hJx3⟩⟩
          rw [← HL0.out, ← show fuel - 1 + 1 = fuel by omega, HL.out]
          simp [HXB.out]
      · have hnx : ix = (nx : Int) - 1 := by have := HNX.out; rw [if_neg hz] at this; omega
        subst hnx
        have hw1 : IntKind.i64.wrap ((nx : Int) - 1 + 1) = (nx : Int) := by rw [show (nx : Int) - 1 + 1 = nx by omega]; exact wrap_id64 (by omega) (by omega)
        have hz1 : ((nx : Int) == 0) = false := by simp; omega
        have q0 : (0 : Int) ≤ (nx : Int) := by omega
        have q1 : (nx : Int) ≤ (R.size : Int) := by omega
        clear HNX hz
        gi_wp2_with (refine ⟨trivial, ?_⟩; gi_at_call 29; refine (callsIn_wide.2 HC).mono ?_; rintro e w1 ⟨rfl, hw⟩; rw [hw]; refine Hid.out ?_)
        obtain ⟨fn, tmps, assign, body, hy, hR⟩ := hY pre x wr hJr (by omega)
        rw [hx] at hy
        clear HC hx
        refine Lib.hid ?_
        gi_wp2
        refine hR.mono ?_
        rintro e W3 (⟨rfl, hJ3, hk3⟩ | ⟨rfl, hJx3⟩)
        · gi_wp2
          go_roundw
          case rel =>
            refine ⟨pre ++ [x], fuel - 1, R.extract nx R.size, rfl, by have := HDR.out.2.1; omega, by have := HDR.out.2.2; simp; omega, ?_, hJ3⟩
            rw [← HL0.out, ← show fuel - 1 + 1 = fuel by omega, HL.out, HDR.out.1]
            simp [HXB.out]
          case measure =>
            simp only [strLen]
            exact HDR.out.2.1
        · gi_wp2
          refine bodyPost_ret (results_none rfl _ _ _) rfl ?_
          refine ⟨⟨_, rfl⟩, .inr ⟨pre ++ [x], ⟨pcs (fuel - 1) (R.data.toList.drop nx), ?_⟩, hJx3⟩⟩
          rw [← HL0.out, ← show fuel - 1 + 1 = fuel by omega, HL.out]
          simp [HXB.out]
theorem lines_in (s : ByteArray) (w : World) :
    Calls Tryd.prog 18 #[.string s] w fun e w' => e = .returned (.func (.func 28) #[] #[.pointer (some ⟨w.heap.size, 0, none⟩)]) ∧ w' = w.alloc (.cells #[.string s] 9) := by
  go_enter Tryd.func18, Tryd.ntmps18
  go_wp2
  go_ret
  exact ⟨rfl, rfl⟩
theorem lines_stops (Bs n₀ : Nat) (s : ByteArray) (hs : s.size ≤ 5000000) (w : World) (hB : w.cell? ⟨Bs, 0, none⟩ = some (.string s)) :
    SeqStopsK Fence.wide 4 Tryd.prog 28 #[.pointer (some ⟨Bs, 0, none⟩)] (fun x : Ln => #[.string x.1]) (Below n₀) (fun xs => xs.map lineB = pcs s.size s.data.toList) (fun pre => ∃ r, pre.map lineB ++ r = pcs s.size s.data.toList) s.size w := fun l J Jx W hW _ _ hY h0 =>
  yields_in l Bs n₀ s J Jx hs hY W ((hW.cell (p := ⟨Bs, 0, none⟩) (World.block_lt_of_cell? w _ hB)).trans hB) h0
end Go.Proofs.YtdeghndcglgfkaaDoor
