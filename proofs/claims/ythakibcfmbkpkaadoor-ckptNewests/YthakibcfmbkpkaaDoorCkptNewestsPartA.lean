/-
  Contracts of the reader of package ckpt: number, count.
  Contracts of queue.anyBarred and what it calls.
  Contract of cmp.Compare over numbers.
  Contract of cmp.Or over two numbers; what a compare of two structs of two numbers leaves as it was.
  Contracts of merge's compare and of slices.IsSortedFunc with it; merge.inOrder.
  What a call answers that answers mail and an error.
  Contract of merge.Least.
  An owned row's value is a slice.
  Contracts of queue.inOrder and queue.unpack: the mail of a run, or ErrForm.
  Lists of lists of mail: what a call owns, what reads; append of one more list; how much mail there is (merge.count).
  Structs of two numbers, and slices of them, that came in: what their data say of memory.
  Slices of mail that came in: what their data say of memory.
  Lists of mail that came in: what their data say of memory.
  Lists of slices of bytes: what a call owns, what reads; append of one more slice.
  A queue that came in, and a piece of mail: what their data say of memory.
  A box that holds a queue.
  Contracts of queue's looseMayBe, unpackAll, count and Count.
  Contract of queue.Count.
  Contracts of ckpt.valueBarred and mailBarred, and of slices.ContainsFunc over them.
  Contract of ckpt.mayBe: what may be saved.
  The box of what is saved, written as a whole; the bytes of P14.2 are bytes.
  Rows, where a box of another type is written.
  Rows of values.
  A region that draws its order, whose last operation waits for all others: the others in whatever order, then that one. (So the last one may store into what the others have read.)
  Calls in a region that draws its order: one whose result is told by a relation, one that gives up by a panic.
  Contract of ckpt.parse: what is made of a payload.
  An append of bytes, as it runs.
  Rows of the call's own that lie in other blocks.
  Contract of the closure that writes numbers in ckpt.Encode.
  Contract of ckpt.Encode: what P14.2 says.
  Contract of frame.Unwrap: payload, count of bytes and error are those of P2.3; nothing that was there is written.
  Contract of ckpt.Decode: P14.3.
  P14.7 as a function: what is saved in a slot.
  P14.8 as a function: the newest that is not too new.
  Contract of ckpt.Load.
-/
import Derived.Test.YthakibcfmbkpkaaDoorSavedParse
import Derived.Test.YthakibcfmbkpkaaDoorGetWalk
import Derived.Test.YthakibcfmbkpkaaDoorCutBytes
import Derived.Test.YthakibcfmbkpkaaDoorBoxMem
import Derived.Test.YthakibcfmbkpkaaDoorQueueMath
import Derived.Test.YthakibcfmbkpkaaDoorRowBase
import Derived.Deep.RegionHeld3
import Derived.Test.YthakibcfmbkpkaaDoorMailMath
import Derived.Deep.QuietTactic
import Derived.BigQuiet
import Derived.Lib.QuietBelow
import Derived.Test.YthakibcfmbkpkaaDoorUngapWalk
import Derived.Laws.OwnMore
import Derived.Test.YthakibcfmbkpkaaDoorKeptMem
import Derived.Deep.AppendLies
import Derived.Test.YthakibcfmbkpkaaDoorTwoMem
import Derived.Deep.Slices
import Derived.Deep.Strs
import Derived.SizedLaws
import Derived.ShutString
import Derived.ChangeOld
import Derived.Below
import Derived.Test.YthakibcfmbkpkaaDoorMailMem
import Derived.Test.YthakibcfmbkpkaaDoorSame
import Derived.Test.YthakibcfmbkpkaaDoorSavedMath
import Derived.Deep.CutRange
import Derived.Test.YthakibcfmbkpkaaDoorRowNew
import Derived.Shelf.Abstract
import Derived.Test.YthakibcfmbkpkaaDoorBase
import Derived.Laws.AppendOwnNone
import Derived.Test.YthakibcfmbkpkaaDoorPutWalk
import Derived.Test.YthakibcfmbkpkaaDoorUnwrapWalk
import Derived.Test.YthakibcfmbkpkaaDoorBytesLib
import Derived.Test.YthakibcfmbkpkaaDoorSlotName
import Derived.Test.YthakibcfmbkpkaaDoorDiskReadWalk

namespace Go.Proofs.YthakibcfmbkpkaaDoor
set_option maxRecDepth 100000
open Go.ChangeShapes Go.WideShapes Go.ChangeAt Go.RowKit

/-- A reader in the block q: what is left lies below it. -/
def RdC (w : World) (q : Nat) (l : List Int) : Prop := ∃ v, BX 85 w q #[v] ∧ Reads .u8 w v l ∧ (∀ a n c, v = .slice (some a) n c → a.block < q) ∧ ∀ x ∈ l, 0 ≤ x ∧ x ≤ 255
theorem RdC.lt {w : World} {q : Nat} {l : List Int} (h : RdC w q l) : q < w.heap.size := by obtain ⟨v, hq, _⟩ := h; exact hq.lt
theorem RdC.kept {S : Nat → Prop} {w w' : World} {q : Nat} {l : List Int} (h : RdC w q l) (hk : Kept S w w') (hs : ∀ k, k ≤ q → ¬ S k) : RdC w' q l := by
  obtain ⟨v, h1, h2, h3, h4⟩ := h
  exact ⟨v, h1.kept hk (hs q (Nat.le_refl _)), hk.reads h2 fun a n c e => hs _ (Nat.le_of_lt (h3 a n c e)), h3, h4⟩
theorem add_blk (p : Addr) (u : Nat) : (p.add u).block = p.block := by unfold Addr.add; split <;> rfl

set_option maxHeartbeats 800000 in
set_option maxRecDepth 100000 in
theorem cNumber_any (q : Nat) (l : List Int) (w : World) (h : RdC w q l) :
    Calls Tryd.prog 59 #[.pointer (some ⟨q, 0, none⟩)] w fun e w' => e = .returned (.int .i64 (numC l).1) ∧ RdC w' q (numC l).2 ∧ Kept (fun k => k = q) w w' ∧ w'.heap.size = w.heap.size := by
  obtain ⟨v, hq, hr, hb, hx⟩ := h
  have HG : Hid (∀ X, Reads .u8 X v l → Calls Tryd.prog 72 #[v] X fun e w' => e = .returned (.tuple #[.int .u64 (get l).1, .int .i64 (get l).2.1, .int .i64 (get l).2.2]) ∧ w' = X) := fun X hX => get_any v l X hX hx
  have HU : (get l).2.1 ≤ l.length ∧ (0 ≤ (get l).1 ∧ (get l).1 ≤ 18446744073709551615) := by
    rcases get_inv hx with ⟨e, he, hne⟩ | ⟨n, t, he, hl, h0, h1⟩
    · rw [he]; simp
    · rw [he]
      refine ⟨?_, h0, h1⟩
      show (put n).length ≤ l.length
      rw [hl]; simp
  obtain ⟨hu, hn0, hn1⟩ := HU
  have HR : Hid (Reads .u8 w v l) := hr
  obtain ⟨a, cap, rfl, hc, hm, ha, hcell⟩ := hr
  have HD : Hid (Reads .u8 w (cutV a l.length cap (get l).2.1) (l.drop (get l).2.1)) := reads_cutV HR.out hu
  have HC : Hid (numC l = (IntKind.i64.wrap (get l).1, l.drop (get l).2.1)) := rfl
  have HX : Hid (∀ x ∈ l.drop (get l).2.1, 0 ≤ x ∧ x ≤ 255) := fun x h => hx x (List.mem_of_mem_drop h)
  have HB : Hid (∀ a' n c, cutV a l.length cap (get l).2.1 = .slice (some a') n c → a'.block < q) := fun a' n c e => by
    unfold cutV at e
    injection e with e _ _
    cases a with
    | none => split at e <;> cases e
    | some p =>
      have := hb p _ _ rfl
      split at e
      · injection e with e; subst e; exact this
      · injection e with e; subst e; rw [show ((fun x : Addr => x.add (get l).2.1) p).block = p.block from add_blk _ _]; exact this
  have HQ : Hid (BX 85 w q #[.slice a l.length cap]) := hq
  have hrun : ∀ X : World, (Instr.slice 44 (.slice a l.length cap) (some (.int .i64 ((get l).2.1 : Int))) none none).run Tryd.prog X = .ok (cutV a l.length cap (get l).2.1) X := fun X => run_cutV a l.length cap (get l).2.1 hu X
  obtain ⟨c0, f0⟩ := hq.all1
  obtain ⟨sa, sl, sc, hsh⟩ : ∃ sa sl sc, cutV a l.length cap (get l).2.1 = .slice sa sl sc := ⟨_, _, _, rfl⟩
  rw [hsh] at HD HB hrun
  rw [HC.out]
  clear HC hq hcell hx hb hsh
  generalize (get l).2.2 = ge at *
  generalize hgu : (get l).2.1 = u at *
  generalize (get l).1 = gn at *
  clear hgu
  unfold maxLen at hm
  go_enter Tryd.func59, Tryd.ntmps59
  go_wp2_with fail
  refine (HG.out _ HR.out).mono ?_
  rintro e w1 ⟨rfl, e1⟩
  have e1' : w = w1 := e1.symm
  subst e1'
  clear e1
  go_wp2_with fail
  go_ret
  refine ⟨?_, ⟨_, HQ.out.set 0 _, ?_, HB.out, HX.out⟩, Kept.box _ _ _ _, ?_⟩
  · simp [IntKind.wrap_i64, wrap64]
  · exact (Kept.box w q 0 (.slice sa sl sc)).reads HD.out fun a n c e h => by have h1 := HB.out a n c e; have h2 : a.block = q := h; omega
  · simp

set_option maxHeartbeats 800000 in
set_option maxRecDepth 100000 in
theorem cCount_any (q : Nat) (l : List Int) (w : World) (h : RdC w q l) :
    Calls Tryd.prog 60 #[.pointer (some ⟨q, 0, none⟩)] w fun e w' => e = .returned (.int .i64 (cntC l).1) ∧ RdC w' q (cntC l).2 ∧ Kept (fun k => k = q) w w' ∧ w'.heap.size = w.heap.size := by
  have HC : Hid (cntC l = (min (numC l).1 ((numC l).2.length : Int), (numC l).2)) := rfl
  have HN : Hid (∀ X, RdC X q l → Calls Tryd.prog 59 #[.pointer (some ⟨q, 0, none⟩)] X fun e w' => e = .returned (.int .i64 (numC l).1) ∧ RdC w' q (numC l).2 ∧ Kept (fun k => k = q) X w' ∧ w'.heap.size = X.heap.size) := fun X hX => cNumber_any q l X hX
  have HH : Hid (RdC w q l) := h
  rw [HC.out]
  clear HC h
  generalize numC l = N at *
  obtain ⟨n, r⟩ := N
  go_enter Tryd.func60, Tryd.ntmps60
  go_wp2_with fail
  refine (HN.out _ HH.out).mono ?_
  rintro e w1 ⟨rfl, h1, h2, h3⟩
  have R1 : Hid (RdC w1 q r) := h1
  have K1 : Hid (Kept (fun k => k = q) w w1 ∧ w1.heap.size = w.heap.size) := ⟨h2, h3⟩
  obtain ⟨v, hq, hr, _, _⟩ := h1
  obtain ⟨a, cap, rfl, hc, hm, _, _⟩ := hr
  obtain ⟨c0, f0⟩ := hq.all1
  unfold maxLen at hm
  clear h2 h3 hq
  go_wp2_with fail
  go_ret
  refine ⟨?_, R1.out, K1.out⟩
  simp
end Go.Proofs.YthakibcfmbkpkaaDoor

namespace Go.Proofs.YthakibcfmbkpkaaDoor
set_option maxRecDepth 100000
open Go.ChangeShapes Go.WideShapes Go.ChangeAt Go.RowKit

set_option maxHeartbeats 1000000 in
/-- anyBarred's closure. -/
theorem barred1_any (m : Ml) (w : World) : Calls Tryd.prog 114 #[.agg #[.int .i64 m.1, .int .i64 m.2]] w fun e w' => e = .returned (.bool (!mayM m)) ∧ Below w.heap.size w w' := by
  obtain ⟨a, b⟩ := m
  simp only
  have hb : ∀ o, Below w.heap.size w (w.alloc o) := fun o => below_alloc w o
  have HY : Hid (¬ (0 ≤ a ∧ a < 200 ∧ 0 ≤ b ∧ b ≤ 4398046511104) → (!mayM (a, b)) = true) := fun h => by rw [mayM_no.2 h]; rfl
  have HN : Hid ((0 ≤ a ∧ a < 200 ∧ 0 ≤ b ∧ b ≤ 4398046511104) → (!mayM (a, b)) = false) := fun h => by rw [mayM_iff.2 h]; rfl
  generalize (!mayM (a, b)) = r at *
  by_cases h0 : a < 0
  · have e := HY.out (by omega)
    subst e
    clear HY HN
    go_enter Tryd.func114, Tryd.ntmps114
    go_wp2_with fail
    go_ret
    exact ⟨rfl, hb _⟩
  · by_cases h1 : 200 ≤ a
    · have e := HY.out (by omega)
      subst e
      clear HY HN
      go_enter Tryd.func114, Tryd.ntmps114
      go_wp2_with fail
      go_ret
      exact ⟨rfl, hb _⟩
    · by_cases h2 : b < 0
      · have e := HY.out (by omega)
        subst e
        clear HY HN
        go_enter Tryd.func114, Tryd.ntmps114
        go_wp2_with fail
        go_ret
        exact ⟨rfl, hb _⟩
      · by_cases h3 : 4398046511104 < b
        · have e := HY.out (by omega)
          subst e
          clear HY HN
          go_enter Tryd.func114, Tryd.ntmps114
          go_wp2_with fail
          go_ret
          exact ⟨rfl, hb _⟩
        · have e := HN.out (by omega)
          subst e
          clear HY HN
          go_enter Tryd.func114, Tryd.ntmps114
          go_wp2_with fail
          go_ret
          exact ⟨rfl, hb _⟩

theorem mayA_cut {l : List Ml} {k : Nat} {x : Ml} (hx : l[k]? = some x) (h : mayA (l.take k) = true) (hm : mayM x = true) : mayA (l.take (k + 1)) = true := by
  rw [take_snoc hx, mayA_app, h]
  show (true && (mayM x && true)) = true
  rw [hm]; rfl
theorem mayA_hit {l : List Ml} {k : Nat} {x : Ml} (hx : l[k]? = some x) (hm : mayM x = false) : mayA l = false := by
  rw [Bool.eq_false_iff]
  intro h
  rw [mayA_iff.1 h x (List.mem_of_getElem? hx)] at hm
  cases hm

set_option maxHeartbeats 1000000 in
theorem indexBar_any (v : Value) (l : List Ml) (w : World) (h : MlR w v l) :
    Calls Tryd.prog 91 #[v, .func (.func 114) #[] #[]] w fun e w' => (∃ r : Int, e = .returned (.int .i64 r) ∧ decide (0 ≤ r) = !mayA l) ∧ Below w.heap.size w w' := by
  have HR : Hid (MlR w v l) := h
  obtain ⟨a, cap, rfl, hc, hm, _, _⟩ := h
  unfold maxLen at hm
  go_enter Tryd.func91, Tryd.ntmps91
  go_wp2_with fail
  go_loopw [8] (fun i wr => ∃ k : Nat, k ≤ l.length ∧ i = .int .i64 k ∧ mayA (l.take k) = true ∧ Below w.heap.size w wr) (fun i _ => l.length - (intOf i).toNat)
  case atStart => exact ⟨0, by omega, rfl, rfl, Below.refl _ _⟩
  case round =>
    obtain ⟨k, hk, rfl, hno, hbel⟩ := hrel
    have HNO : Hid (mayA (l.take k) = true) := hno
    have HB : Hid (Below w.heap.size w wr) := hbel
    have hsr := hbel.size
    clear hno hbel
    by_cases hlt : k < l.length
    · obtain ⟨b, off, cap', e1, _, _, lt, hv⟩ := MlR.at (HR.out.below HB.out (Nat.le_refl _)) (by omega)
      injection e1 with e1 e2 e3
      subst e1 e3
      clear e2
      obtain ⟨x, hx⟩ := getX hlt
      obtain ⟨c1, c2⟩ := hv k x hx
      have HX : Hid (l[k]? = some x) := hx
      clear hv hx
      cases ho : mayM x
      · have HA : Hid (mayA l = false) := mayA_hit HX.out ho
        go_wp2_with fail
        refine (barred1_any x _).mono ?_
        rw [ho]
        rintro e w2 ⟨rfl, hb2⟩
        go_wp2_with fail
        go_ret
        exact ⟨⟨k, rfl, by rw [HA.out]; simp⟩, HB.out.trans (hb2.mono hsr)⟩
      · have HN2 : Hid (mayA (l.take (k + 1)) = true) := mayA_cut HX.out HNO.out ho
        go_wp2_with fail
        refine (barred1_any x _).mono ?_
        rw [ho]
        rintro e w2 ⟨rfl, hb2⟩
        go_wp2_with fail
        go_roundw
        case rel => exact ⟨k + 1, by omega, by go_num, HN2.out, HB.out.trans (hb2.mono hsr)⟩
        case measure => simp [intOf]; omega
    · have ek : l.take k = l := List.take_of_length_le (by omega)
      have HA : Hid (mayA l = true) := by have := HNO.out; rwa [ek] at this
      clear ek
      go_wp2_with fail
      go_ret
      exact ⟨⟨-1, rfl, by rw [HA.out]; rfl⟩, HB.out⟩

set_option maxHeartbeats 400000 in
theorem containsBar_any (v : Value) (l : List Ml) (w : World) (h : MlR w v l) :
    Calls Tryd.prog 77 #[v, .func (.func 114) #[] #[]] w fun e w' => e = .returned (.bool (!mayA l)) ∧ Below w.heap.size w w' := by
  have hcon := indexBar_any v l w h
  obtain ⟨a, cap, rfl⟩ := h.shape
  generalize (!mayA l) = r at hcon ⊢
  clear h
  go_enter Tryd.func77, Tryd.ntmps77
  go_wp2_with fail
  refine hcon.mono ?_
  rintro e w2 ⟨⟨j, rfl, hj⟩, hb2⟩
  have HJ : Hid (decide (0 ≤ j) = r) := hj
  clear hj
  go_wp2_with fail
  go_ret
  exact ⟨ret_bool HJ.out, hb2⟩

set_option maxHeartbeats 400000 in
theorem anyBarred_any (v : Value) (l : List Ml) (w : World) (h : MlR w v l) :
    Calls Tryd.prog 111 #[v] w fun e w' => e = .returned (.bool (!mayA l)) ∧ Below w.heap.size w w' := by
  have hcon := containsBar_any v l w h
  obtain ⟨a, cap, rfl⟩ := h.shape
  generalize (!mayA l) = r at hcon ⊢
  clear h
  go_enter Tryd.func111, Tryd.ntmps111
  go_wp2_with fail
  refine hcon.mono ?_
  rintro e w2 ⟨rfl, hb2⟩
  have HB : Hid (Below w.heap.size w w2) := hb2
  clear hb2
  go_wp2_with fail
  go_ret
  exact ⟨rfl, HB.out⟩
end Go.Proofs.YthakibcfmbkpkaaDoor

namespace Go.Proofs.YthakibcfmbkpkaaDoor
set_option maxRecDepth 100000
open Go.ChangeShapes Go.WideShapes Go.ChangeAt Go.RowKit

def cmpI (a b : Int) : Int := if a < b then -1 else if b < a then 1 else 0

set_option maxHeartbeats 400000 in
theorem isNaN_any (a : Int) (w : World) : Calls Tryd.prog 110 #[.int .i64 a] w fun e w' => e = .returned (.bool false) ∧ w' = w := by
  have h : (a != a) = false := by simp
  go_enter Tryd.func110, Tryd.ntmps110
  go_wp2
  go_ret
  exact ⟨rfl, rfl⟩

set_option maxHeartbeats 1000000 in
theorem cmpInt_any (a b : Int) (w : World) : Calls Tryd.prog 107 #[.int .i64 a, .int .i64 b] w fun e w' => e = .returned (.int .i64 (cmpI a b)) ∧ w' = w := by
  unfold cmpI
  by_cases h1 : a < b
  · rw [if_pos h1]
    go_enter Tryd.func107, Tryd.ntmps107
    go_wp2_with (go_at_call 110; refine (isNaN_any _ _).mono ?_; rintro e w1 ⟨rfl, rfl⟩)
    go_ret
    exact ⟨rfl, rfl⟩
  · rw [if_neg h1]
    by_cases h2 : b < a
    · rw [if_pos h2]
      go_enter Tryd.func107, Tryd.ntmps107
      go_wp2_with (go_at_call 110; refine (isNaN_any _ _).mono ?_; rintro e w1 ⟨rfl, rfl⟩)
      go_ret
      exact ⟨rfl, rfl⟩
    · rw [if_neg h2]
      go_enter Tryd.func107, Tryd.ntmps107
      go_wp2_with (go_at_call 110; refine (isNaN_any _ _).mono ?_; rintro e w1 ⟨rfl, rfl⟩)
      go_ret
      exact ⟨rfl, rfl⟩

end Go.Proofs.YthakibcfmbkpkaaDoor

namespace Go.Proofs.YthakibcfmbkpkaaDoor
set_option maxRecDepth 100000
open Go.ChangeShapes Go.WideShapes Go.ChangeAt Go.RowKit

/-- The first that is not 0. -/
def or2 (a b : Int) : Int := if a ≠ 0 then a else b

set_option maxHeartbeats 1000000 in
theorem cmpOr2_any (a b : Int) (q : Nat) (w : World) (h0 : w.cell? ⟨q, 0, none⟩ = some (.int .i64 a)) (h1 : w.cell? ⟨q, 1, none⟩ = some (.int .i64 b)) :
    Calls Tryd.prog 106 #[.slice (some ⟨q, 0, none⟩) 2 2] w fun e w' => e = .returned (.int .i64 (or2 a b)) ∧ w' = w := by
  unfold or2
  by_cases ha : a ≠ 0
  · rw [if_pos ha]
    have ha' : (a != 0) = true := by simpa using ha
    go_enter Tryd.func106, Tryd.ntmps106
    go_wp2
    refine wp_loop_rounds 1 ?_
    rw [rounds_succ]
    go_wp2
    go_ret
    exact ⟨rfl, rfl⟩
  · rw [if_neg ha]
    have ha' : (a != 0) = false := by simpa using ha
    by_cases hb : b ≠ 0
    · have hb' : (b != 0) = true := by simpa using hb
      go_enter Tryd.func106, Tryd.ntmps106
      go_wp2
      refine wp_loop_rounds 2 ?_
      rw [rounds_succ]
      go_wp2
      rw [rounds_succ]
      go_wp2
      go_ret
      exact ⟨rfl, rfl⟩
    · have hb' : (b != 0) = false := by simpa using hb
      have hb0 : b = 0 := by simpa using hb
      go_enter Tryd.func106, Tryd.ntmps106
      go_wp2
      refine wp_loop_rounds 3 ?_
      rw [rounds_succ]
      go_wp2
      rw [rounds_succ]
      go_wp2
      rw [rounds_succ]
      go_wp2
      go_ret
      exact ⟨by rw [hb0]; rfl, rfl⟩

/-- The boxes of the two structs, and what was there. -/
def CmpT (W V : World) (a0 a1 b0 b1 : Int) : Prop :=
  V.cell? ⟨W.heap.size, 0, none⟩ = some (.int .i64 a0) ∧ V.cell? ⟨W.heap.size + 1, 0, none⟩ = some (.int .i64 b0) ∧ V.cell? ⟨W.heap.size, 1, none⟩ = some (.int .i64 a1) ∧ V.cell? ⟨W.heap.size + 1, 1, none⟩ = some (.int .i64 b1) ∧ W.heap.size ≤ V.heap.size ∧ Below W.heap.size W V
theorem cmpT_alloc {W V : World} {a0 a1 b0 b1 : Int} (h : CmpT W V a0 a1 b0 b1) (o : Obj) : CmpT W (V.alloc o) a0 a1 b0 b1 := by
  obtain ⟨h1, h2, h3, h4, h5, h6⟩ := h
  have c : ∀ {p : Addr} {v : Value}, V.cell? p = some v → (V.alloc o).cell? p = some v := fun {p v} hp => ((below_alloc V o).cell (p := p) (World.block_lt_of_cell? V p hp)).trans hp
  exact ⟨c h1, c h2, c h3, c h4, by simp; omega, h6.alloc h5 o⟩
theorem heap_third' (w : World) (o1 o2 : Obj) (cs : Array Value) (t : TypeId) : (((w.alloc o1).alloc o2).alloc (.cells cs t)).drew.heap[w.heap.size + 1 + 1]? = some (.cells cs t (0, 0)) := by
  have := heap_second (w.alloc o1) o2 cs t
  have e : (w.alloc o1).heap.size = w.heap.size + 1 := by simp
  rw [e] at this
  exact this
end Go.Proofs.YthakibcfmbkpkaaDoor

namespace Go.Proofs.YthakibcfmbkpkaaDoor
set_option maxRecDepth 100000
open Go.ChangeShapes Go.WideShapes Go.ChangeAt Go.RowKit Go.Sort

/-- To, then Value. -/
def cmpM (x y : Ml) : Int := or2 (cmpI x.1 y.1) (cmpI x.2 y.2)
theorem cmpM_lt (x y : Ml) : decide (cmpM x y < 0) = ltMb x y := by
  unfold ltMb
  congr 1
  unfold cmpM or2 cmpI
  refine propext ⟨fun h => ?_, fun h => ?_⟩
  · split at h <;> (try split at h) <;> omega
  · split <;> (try split) <;> omega
theorem cmpT_mails (W : World) (a0 a1 b0 b1 : Int) : CmpT W ((W.alloc (.cells #[.int .i64 a0, .int .i64 a1] 75)).alloc (.cells #[.int .i64 b0, .int .i64 b1] 75)).drew a0 a1 b0 b1 :=
  ⟨by simp, by simp, by simp, by simp, by simp; omega, ((below_alloc W _).alloc (by simp) _).drew⟩
set_option maxHeartbeats 2000000 in
set_option maxRecDepth 100000 in
theorem mailCmp_any (x y : Ml) (W : World) : Calls Tryd.prog 101 #[.agg #[.int .i64 x.1, .int .i64 x.2], .agg #[.int .i64 y.1, .int .i64 y.2]] W fun e w' => e = .returned (.int .i64 (cmpM x y)) ∧ Below W.heap.size W w' := by
  unfold cmpM
  obtain ⟨a0, a1⟩ := x
  obtain ⟨b0, b1⟩ := y
  simp only
  have HS0 : Hid (CmpT W _ a0 a1 b0 b1) := cmpT_mails W a0 a1 b0 b1
  generalize hor : or2 (cmpI a0 b0) (cmpI a1 b1) = rr
  have c3 : Hid (∀ (q : Nat) (V : World), V.heap[q]? = some (.cells #[.int .i64 (cmpI a0 b0), .int .i64 (cmpI a1 b1)] 3 (0, 0)) → Calls Tryd.prog 106 #[.slice (some ⟨q, 0, none⟩) 2 2] V fun e w' => e = .returned (.int .i64 rr) ∧ w' = V) := fun q V h => by rw [← hor]; exact cmpOr2_any _ _ q V (by rw [cell_of_row _ _ _ _ _ _ h]; rfl) (by rw [cell_of_row _ _ _ _ _ _ h]; rfl)
  clear hor
  go_enter Tryd.func101, Tryd.ntmps101
  go_wp2_with fail
  go_region_held3 (fun V => V.cell? ⟨W.heap.size, 0, none⟩ = some (.int .i64 a0) ∧ V.cell? ⟨W.heap.size + 1, 0, none⟩ = some (.int .i64 b0) ∧ V.cell? ⟨W.heap.size, 1, none⟩ = some (.int .i64 a1) ∧ V.cell? ⟨W.heap.size + 1, 1, none⟩ = some (.int .i64 b1) ∧ W.heap.size ≤ V.heap.size ∧ Below W.heap.size W V) (first | exact HS0.out | assumption | exact cmpT_alloc (by assumption) _) (first | (go_at_call 107; refine (cmpInt_any _ _ _).mono ?_; rintro e w1 ⟨rfl, rfl⟩) | (go_at_call 106; refine (c3.out _ _ (heap_third' _ _ _ _ _)).mono ?_; rintro e w1 ⟨rfl, rfl⟩))
  all_goals (rename_i hh; clear hh)
  go_wp2_with fail
  go_ret
  exact ⟨rfl, (((below_alloc W _).alloc (by simp) _).alloc (by simp; omega) _).drew⟩

set_option maxHeartbeats 1000000 in
set_option maxRecDepth 100000 in
theorem mailSrt_any (v : Value) (l : List Ml) (w : World) (h : MlR w v l) :
    Calls Tryd.prog 100 #[v, .func (.func 101) #[] #[]] w fun e w' => e = .returned (.bool (srtMb l)) ∧ Below w.heap.size w w' := by
  by_cases hn : 0 < l.length
  · obtain ⟨b, off, cap, rfl, hc, hm, hb, hv⟩ := MlR.at h hn
    unfold maxLen at hm
    have HC : Hid (∀ i x, l[i]? = some x → w.cell? ⟨b, off + i * 2, none⟩ = some (.int .i64 x.1) ∧ w.cell? ⟨b, off + i * 2 + 1, none⟩ = some (.int .i64 x.2)) := hv
    have HT : Hid (SrtM l → srtMb l = true) := (srtMb_iff l).2
    have HF : Hid (¬ SrtM l → srtMb l = false) := fun h => by rw [Bool.eq_false_iff]; exact fun h2 => h ((srtMb_iff l).1 h2)
    clear hv h
    generalize srtMb l = r at *
    go_enter Tryd.func100, Tryd.ntmps100
    go_wp2_with fail
    go_loopw [5] (fun i wr => ∃ k : Nat, k < l.length ∧ i = .int .i64 k ∧ (∀ i x y, k ≤ i → l[i]? = some x → l[i + 1]? = some y → ¬ ltM y x) ∧ Below w.heap.size w wr) (fun i _ => (intOf i).toNat)
    case atStart => exact ⟨l.length - 1, by omega, by go_num, fun i x y hi _ h2 => by have := (List.getElem?_eq_some_iff.1 h2).1; omega, Below.refl _ _⟩
    case round =>
      obtain ⟨k, hk, rfl, hs, hbel⟩ := hrel
      have HS : Hid (∀ i x y, k ≤ i → l[i]? = some x → l[i + 1]? = some y → ¬ ltM y x) := hs
      have HB : Hid (Below w.heap.size w wr) := hbel
      have hsr := hbel.size
      clear hs hbel
      by_cases hlt : 0 < k
      · obtain ⟨j, rfl⟩ : ∃ j, k = j + 1 := ⟨k - 1, by omega⟩
        obtain ⟨x, hx⟩ := getX hk
        obtain ⟨y, hy⟩ := getX (show j < l.length by omega)
        obtain ⟨x1, x2⟩ := HC.out _ _ hx
        obtain ⟨y1, y2⟩ := HC.out _ _ hy
        have g1 := cell_regrown ((HB.out.cell (p := ⟨b, off + (j + 1) * 2, none⟩) (by exact hb)).trans x1)
        have g2 := cell_regrown ((HB.out.cell (p := ⟨b, off + (j + 1) * 2 + 1, none⟩) (by exact hb)).trans x2)
        have g3 := cell_regrown ((HB.out.cell (p := ⟨b, off + j * 2, none⟩) (by exact hb)).trans y1)
        have g4 := cell_regrown ((HB.out.cell (p := ⟨b, off + j * 2 + 1, none⟩) (by exact hb)).trans y2)
        have HN : Hid (¬ ltM x y → ∀ i a b, j ≤ i → l[i]? = some a → l[i + 1]? = some b → ¬ ltM b a) := fun h i a b hi ha hb2 => by
          by_cases e : i = j
          · subst e
            rw [hy] at ha
            rw [hx] at hb2
            injection ha with ha
            injection hb2 with hb2
            subst ha hb2
            exact h
          · exact HS.out i a b (by omega) ha hb2
        have HR : Hid (ltM x y → r = false) := fun h => HF.out fun h2 => h2 j y x hy hx h
        have HCC : Hid (decide (cmpM x y < 0) = ltMb x y) := cmpM_lt x y
        have EE : ∀ d os, Calls Tryd.prog 101 #[.agg #[.int .i64 x.1, .int .i64 x.2], .agg #[.int .i64 y.1, .int .i64 y.2]] (grow (redrawn wr d) os) fun e w'' => e = .returned (.int .i64 (cmpM x y)) ∧ ∃ p : Regrown, w'' = grow (redrawn wr p.d) p.os := fun d os => Calls.regrown_of (mailCmp_any x y _)
        generalize cmpM x y = c at *
        have i1 : (j : Int) + 1 < (l.length : Int) := by omega
        have i2 : (j : Int) < (l.length : Int) := by omega
        have i3 : (0 : Int) ≤ (j : Int) := by omega
        have i4 : (0 : Int) ≤ (j : Int) + 1 := by omega
        have i5 : (j : Int) + 1 - 1 = (j : Int) := by omega
        have i6 : IntKind.i64.wrap (j : Int) = (j : Int) := wrap_id64 (by omega) (by omega)
        clear x1 x2 y1 y2 hx hy HS
        go_wp2_with fail
        refine wp_region_quiet_below (by kernel_rfl) (by kernel_rfl) ?_
        repeat (quiet_step (exact EE _ _))
        refine wpQuiet_nil ?_
        intro _ hw'
        obtain ⟨⟨dq, osq⟩, hw''⟩ := hw'
        have HB9 : Hid (Below w.heap.size w (grow (redrawn wr dq) osq)) := HB.out.trans ((below_regrown wr dq osq).mono hsr)
        subst hw''
        generalize grow (redrawn wr dq) osq = W9 at HB9 ⊢
        clear g1 g2 g3 g4 EE
        by_cases hxy : c < 0
        · have HX : Hid (r = false) := HR.out (ltMb_true.1 (by rw [← HCC.out]; exact decide_eq_true hxy))
          go_wp2_with fail
          go_ret
          exact ⟨by rw [HX.out]; rfl, HB9.out⟩
        · have HX : Hid _ := HN.out (ltMb_false.1 (by rw [← HCC.out]; exact decide_eq_false hxy))
          go_wp2_with fail
          go_roundw
          case rel => exact ⟨j, by omega, by go_num, HX.out, HB9.out⟩
          case measure => simp [intOf]
      · have HX : Hid (r = true) := HT.out fun i x y h1 h2 => HS.out i x y (by omega) h1 h2
        go_wp2_with fail
        go_ret
        exact ⟨by rw [HX.out]; rfl, HB.out⟩
  · have e1 : l = [] := List.eq_nil_of_length_eq_zero (by omega)
    subst e1
    obtain ⟨a, c, rfl, _, _⟩ := h
    clear hn
    go_enter Tryd.func100, Tryd.ntmps100
    go_wp2_with fail
    refine wp_loop_rounds 1 ?_
    rw [rounds_succ]
    go_wp2
    go_ret
    exact ⟨rfl, Below.refl _ _⟩

set_option maxHeartbeats 400000 in
theorem inOrderM_any (v : Value) (l : List Ml) (w : World) (h : MlR w v l) :
    Calls Tryd.prog 90 #[v] w fun e w' => e = .returned (.bool (srtMb l)) ∧ Below w.heap.size w w' := by
  have HC : Hid (∀ X, MlR X v l → Calls Tryd.prog 100 #[v, .func (.func 101) #[] #[]] X fun e w' => e = .returned (.bool (srtMb l)) ∧ Below X.heap.size X w') := fun X hX => mailSrt_any v l X hX
  have HR : Hid (MlR w v l) := h
  obtain ⟨a, c, rfl⟩ := h.shape
  clear h
  generalize srtMb l = r at *
  go_enter Tryd.func90, Tryd.ntmps90
  go_wp2_with fail
  refine (HC.out _ HR.out).mono ?_
  rintro e w1 ⟨rfl, hb⟩
  have HB : Hid (Below w.heap.size w w1) := hb
  clear hb
  go_wp2_with fail
  go_ret
  exact ⟨rfl, HB.out⟩
end Go.Proofs.YthakibcfmbkpkaaDoor

namespace Go.Proofs.YthakibcfmbkpkaaDoor
set_option maxRecDepth 100000
open Go.ChangeShapes Go.WideShapes Go.ChangeAt Go.RowKit

/-- Mail, where the error f is none. -/
def RefP (w : World) (f : Int) (l : List Ml) (e : Ending) (w' : World) : Prop := ∃ v', e = .returned (.tuple #[v', .int .i64 f]) ∧ w'.ownsRow w.heap.size 75 2 v' (okL f l).length ((okL f l).flatMap encM) ∧ Below w.heap.size w w'
theorem RefP.no {w w' : World} {f : Int} {l : List Ml} (hf : f ≠ 0) (hb : Below w.heap.size w w') : RefP w f l (.returned (.tuple #[.slice none 0 0, .int .i64 f])) w' := ⟨_, rfl, by rw [okL_no hf]; exact World.ownsRow_nil _ _ _ _, hb⟩
theorem RefP.yes {w w' : World} {l : List Ml} {v : Value} (ho : w'.ownsRow w.heap.size 75 2 v l.length (l.flatMap encM)) (hb : Below w.heap.size w w') : RefP w 0 l (.returned (.tuple #[v, .int .i64 0])) w' := ⟨_, rfl, by rw [okL_yes]; exact ho, hb⟩
theorem RefP.reads {w w' : World} {f : Int} {l : List Ml} {e : Ending} (h : RefP w f l e w') : ∃ a n c, e = .returned (.tuple #[.slice a n c, .int .i64 f]) ∧ MlR w' (.slice a n c) (okL f l) ∧ w'.ownsRow w.heap.size 75 2 (.slice a n c) (okL f l).length ((okL f l).flatMap encM) ∧ Below w.heap.size w w' := by
  obtain ⟨v, rfl, ho, hb⟩ := h
  have hr := MlR.ownd ho
  obtain ⟨a, c, rfl⟩ := hr.shape
  exact ⟨_, _, _, rfl, hr, ho, hb⟩
theorem sumM_bound {C : Nat} : ∀ (f : List (List Ml)), (∀ l ∈ f, l.length ≤ C) → sumM f ≤ f.length * C
  | [], _ => by simp [sumM]
  | l :: f, h => by
    have h1 := sumM_bound f fun x hx => h x (by simp [hx])
    have h2 := h l (by simp)
    unfold sumM at *
    simp only [List.map_cons, List.sum_cons, List.length_cons]
    rw [Nat.add_mul, Nat.one_mul]
    omega
theorem allB_iff (f : List (List Ml)) : allB f = true ↔ ∀ l ∈ f, srtMb l = true := by unfold allB; rw [List.all_eq_true]
theorem allB_no {f : List (List Ml)} {l : List Ml} (hl : l ∈ f) (h : srtMb l = false) : allB f = false := by
  rw [Bool.eq_false_iff]
  intro h2
  rw [(allB_iff f).1 h2 l hl] at h
  cases h
end Go.Proofs.YthakibcfmbkpkaaDoor

namespace Go.Proofs.YthakibcfmbkpkaaDoor
set_option maxRecDepth 100000
open Go.ChangeShapes Go.WideShapes Go.ChangeAt Go.RowKit

set_option maxHeartbeats 2000000 in
set_option maxRecDepth 100000 in
theorem least_any (v : Value) (l : List Ml) (w : World) (h : MlR w v l) : Calls Tryd.prog 76 #[v] w (RefP w (errL l) (lowM l)) := by
  have HR : Hid (MlR w v l) := h
  obtain ⟨a, cap, rfl, hc, hm, _, _⟩ := h
  unfold maxLen at hm
  by_cases hn : l.length > 5000
  · rw [show errL l = 1 from if_pos hn]
    have HE : Hid (RefP w 1 (lowM l) (.returned (.tuple #[.slice none 0 0, .int .i64 1])) w) := RefP.no (by decide) (Below.refl _ _)
    generalize RefP w 1 (lowM l) = P at *
    go_enter Tryd.func76, Tryd.ntmps76
    go_wp2_with fail
    exact HE.out
  · have HC : Hid (∀ X, MlR X (.slice a l.length cap) l → Calls Tryd.prog 90 #[.slice a l.length cap] X fun e w' => e = .returned (.bool (srtMb l)) ∧ Below X.heap.size X w') := fun X hX => inOrderM_any _ l X hX
    have hel : errL l = if srtMb l then 0 else 3 := if_neg hn
    rw [hel]
    clear hel
    cases hso : srtMb l with
    | false =>
      rw [hso] at HC
      rw [if_neg (by decide)]
      have HE : Hid (∀ w', Below w.heap.size w w' → RefP w 3 (lowM l) (.returned (.tuple #[.slice none 0 0, .int .i64 3])) w') := fun w' hb => RefP.no (by decide) hb
      generalize RefP w 3 (lowM l) = P at *
      clear hso
      go_enter Tryd.func76, Tryd.ntmps76
      go_wp2_with fail
      refine (HC.out _ HR.out).mono ?_
      rintro e w1 ⟨rfl, hb1⟩
      have HX : Hid (P (.returned (.tuple #[.slice none 0 0, .int .i64 3])) w1) := HE.out _ hb1
      clear hb1
      go_wp2_with fail
      exact HX.out
    | true =>
      rw [hso] at HC
      rw [if_pos rfl]
      have HE : Hid (∀ v' w', w'.ownsRow w.heap.size 75 2 v' (lowM l).length ((lowM l).flatMap encM) → Below w.heap.size w w' → RefP w 0 (lowM l) (.returned (.tuple #[v', .int .i64 0])) w') := fun v' w' h1 h2 => RefP.yes h1 h2
      generalize RefP w 0 (lowM l) = P at *
      clear hso
      go_enter Tryd.func76, Tryd.ntmps76
      go_wp2_with fail
      refine (HC.out _ HR.out).mono ?_
      rintro e w1 ⟨rfl, hb1⟩
      have HB1 : Hid (Below w.heap.size w w1) := hb1
      clear hb1 HC
      go_wp2_with fail
      go_loopw [4, 15] (fun u i wr => ∃ k : Nat, k ≤ l.length ∧ i = .int .i64 k ∧ wr.ownsRow w.heap.size 75 2 u (lowT l k).length ((lowT l k).flatMap encM) ∧ Below w.heap.size w wr) (fun _ i _ => l.length - (intOf i).toNat)
      case atStart => exact ⟨0, by omega, rfl, World.ownsRow_nil _ _ _ _, HB1.out⟩
      case round =>
        obtain ⟨k, hk, rfl, hown, hbel⟩ := hrel
        have OW : Hid (wr.ownsRow w.heap.size 75 2 u4 (lowT l k).length ((lowT l k).flatMap encM)) := hown
        have HB : Hid (Below w.heap.size w wr) := hbel
        have hsr := hbel.size
        have hll := lowT_len l k
        clear hown hbel
        by_cases hlt : k < l.length
        · obtain ⟨b, off, cap', e1, _, _, lt, hv⟩ := MlR.at (HR.out.below HB.out (Nat.le_refl _)) (by omega)
          injection e1 with e1 _ e3
          subst e1 e3
          obtain ⟨x, hx⟩ := getX hlt
          obtain ⟨c1, c2⟩ := hv k x hx
          have p0 : (0 : Int) ≤ (k : Int) := by omega
          have p1 : (k : Int) < (l.length : Int) := by omega
          cases k with
          | zero =>
            have HY : Hid (lowT l 1 = lowT l 0 ++ [x]) := lowT_yes hx (keepB_zero l)
            simp only [Nat.zero_mul, Nat.add_zero] at c1 c2
            have q1 : (((0 : Nat) : Int) == 0) = true := by simp
            clear hv hx
            generalize lowT l 0 = t at *
            go_wp2_with fail
            go_quiet (fail)
            have O2 : Hid (((wr.alloc (.cells #[.int .i64 x.1, .int .i64 x.2] 75)).drewN nq).ownsRow w.heap.size 75 2 u4 t.length (t.flatMap encM)) := ⟨OW.out.1, (OW.out.alloc _).2⟩
            have HB2 : Hid (Below w.heap.size w ((wr.alloc (.cells #[.int .i64 x.1, .int .i64 x.2] 75)).drewN nq)) := below_drewN (HB.out.alloc hsr _) nq
            have hbx : ((wr.alloc (.cells #[.int .i64 x.1, .int .i64 x.2] 75)).drewN nq).heap[wr.heap.size]? = some (.cells #[.int .i64 x.1, .int .i64 x.2] 75 (0, 0)) := heap_alloc_new wr _
            generalize (wr.alloc (.cells #[.int .i64 x.1, .int .i64 x.2] 75)).drewN nq = w2 at *
            have hs2 := HB2.out.size
            have d1 : w2.cell? ⟨wr.heap.size, 0, none⟩ = some (.int .i64 x.1) := by rw [cell_of_row _ _ _ _ _ _ hbx]; rfl
            have d2 : w2.cell? ⟨wr.heap.size, 1, none⟩ = some (.int .i64 x.2) := by rw [cell_of_row _ _ _ _ _ _ hbx]; rfl
            clear c1 c2 hbx
            go_wp2_with (at_builtin; refine wpList_append_newK kM rfl _ _ rfl w.heap.size _ t rfl (O2.out.alloc _) w2.heap.size x rfl #[.int .i64 x.1, .int .i64 x.2] rfl (0, 0) (heap_alloc_new _ _) (by simp [kM]; omega) (by unfold maxLen; omega) (by simp; omega) ?_)
            intro g c w3 hown3 hb3 _
            have O3 : Hid (w3.ownsRow w.heap.size 75 2 (.slice (some ⟨g, 0, none⟩) (t.length + 1) c) (lowT l (0 + 1)).length ((lowT l (0 + 1)).flatMap encM)) := by
              show World.ownsRow _ _ _ _ _ _ _
              rw [HY.out, flat_snoc, List.length_append]; exact hown3
            have HB3 : Hid (Below w.heap.size w w3) := (HB2.out.alloc hs2 _).trans hb3
            clear hown3 hb3
            go_wp2_with fail
            go_roundw
            case rel => exact ⟨0 + 1, by omega, by go_num, O3.out, HB3.out⟩
            case measure => simp [intOf]; omega
          | succ j =>
            obtain ⟨y, hy⟩ := getX (show j < l.length by omega)
            obtain ⟨y1, _⟩ := hv j y hy
            have HKB : Hid (keepB l (j + 1) = decide (x.1 ≠ y.1)) := keepB_succ hx hy
            have HYY : Hid (keepB l (j + 1) = true → lowT l (j + 1 + 1) = lowT l (j + 1) ++ [x]) := fun h => lowT_yes hx h
            have HYN : Hid (keepB l (j + 1) = false → lowT l (j + 1 + 1) = lowT l (j + 1)) := fun h => lowT_no h
            have q1 : (((j + 1 : Nat) : Int) == 0) = false := by simp; omega
            have q2 : ((j : Int) + 1 == 0) = false := by simp; omega
            have q3 : (0 : Int) ≤ (j : Int) := by omega
            have q4 : (j : Int) < (l.length : Int) := by omega
            have q5 : IntKind.i64.wrap ((j : Int) + 1 - 1) = (j : Int) := by rw [Int.add_sub_cancel]; exact wrap_id64 (by omega) (by omega)
            have q6 : (0 : Int) ≤ (j : Int) + 1 := by omega
            have q7 : (j : Int) + 1 < (l.length : Int) := by omega
            clear hv hx hy
            generalize lowT l (j + 1) = t at *
            by_cases hxy : x.1 = y.1
            · have HY : Hid (lowT l (j + 1 + 1) = t) := HYN.out (by rw [HKB.out]; simpa using hxy)
              have r1 : (x.1 != y.1) = false := by simpa using hxy
              clear hxy HYY HYN HKB
              go_wp2_with fail
              go_quiet (fail)
              have O2 : Hid (((wr.alloc (.cells #[.int .i64 x.1, .int .i64 x.2] 75)).drewN nq).ownsRow w.heap.size 75 2 u4 t.length (t.flatMap encM)) := ⟨OW.out.1, (OW.out.alloc _).2⟩
              have HB2 : Hid (Below w.heap.size w ((wr.alloc (.cells #[.int .i64 x.1, .int .i64 x.2] 75)).drewN nq)) := below_drewN (HB.out.alloc hsr _) nq
              have hbx : ((wr.alloc (.cells #[.int .i64 x.1, .int .i64 x.2] 75)).drewN nq).heap[wr.heap.size]? = some (.cells #[.int .i64 x.1, .int .i64 x.2] 75 (0, 0)) := heap_alloc_new wr _
              generalize (wr.alloc (.cells #[.int .i64 x.1, .int .i64 x.2] 75)).drewN nq = w2 at *
              have hs2 := HB2.out.size
              have d1 : w2.cell? ⟨wr.heap.size, 0, none⟩ = some (.int .i64 x.1) := by rw [cell_of_row _ _ _ _ _ _ hbx]; rfl
              have d2 : w2.cell? ⟨wr.heap.size, 1, none⟩ = some (.int .i64 x.2) := by rw [cell_of_row _ _ _ _ _ _ hbx]; rfl
              clear c1 c2 hbx
              go_wp2_with fail
              go_roundw
              case rel => exact ⟨j + 1 + 1, by omega, by go_num, by rw [HY.out]; exact O2.out, HB2.out⟩
              case measure => simp [intOf]; omega
            · have HY : Hid (lowT l (j + 1 + 1) = t ++ [x]) := HYY.out (by rw [HKB.out]; simpa using hxy)
              have r1 : (x.1 != y.1) = true := by simpa using hxy
              clear hxy HYY HYN HKB
              go_wp2_with fail
              go_quiet (fail)
              have O2 : Hid (((wr.alloc (.cells #[.int .i64 x.1, .int .i64 x.2] 75)).drewN nq).ownsRow w.heap.size 75 2 u4 t.length (t.flatMap encM)) := ⟨OW.out.1, (OW.out.alloc _).2⟩
              have HB2 : Hid (Below w.heap.size w ((wr.alloc (.cells #[.int .i64 x.1, .int .i64 x.2] 75)).drewN nq)) := below_drewN (HB.out.alloc hsr _) nq
              have hbx : ((wr.alloc (.cells #[.int .i64 x.1, .int .i64 x.2] 75)).drewN nq).heap[wr.heap.size]? = some (.cells #[.int .i64 x.1, .int .i64 x.2] 75 (0, 0)) := heap_alloc_new wr _
              generalize (wr.alloc (.cells #[.int .i64 x.1, .int .i64 x.2] 75)).drewN nq = w2 at *
              have hs2 := HB2.out.size
              have d1 : w2.cell? ⟨wr.heap.size, 0, none⟩ = some (.int .i64 x.1) := by rw [cell_of_row _ _ _ _ _ _ hbx]; rfl
              have d2 : w2.cell? ⟨wr.heap.size, 1, none⟩ = some (.int .i64 x.2) := by rw [cell_of_row _ _ _ _ _ _ hbx]; rfl
              clear c1 c2 hbx
              go_wp2_with (at_builtin; refine wpList_append_newK kM rfl _ _ rfl w.heap.size _ t rfl (O2.out.alloc _) w2.heap.size x rfl #[.int .i64 x.1, .int .i64 x.2] rfl (0, 0) (heap_alloc_new _ _) (by simp [kM]; omega) (by unfold maxLen; omega) (by simp; omega) ?_)
              intro g c w3 hown3 hb3 _
              have O3 : Hid (w3.ownsRow w.heap.size 75 2 (.slice (some ⟨g, 0, none⟩) (t.length + 1) c) (lowT l ((j + 1) + 1)).length ((lowT l ((j + 1) + 1)).flatMap encM)) := by
                show World.ownsRow _ _ _ _ _ _ _
                rw [HY.out, flat_snoc, List.length_append]; exact hown3
              have HB3 : Hid (Below w.heap.size w w3) := (HB2.out.alloc hs2 _).trans hb3
              clear hown3 hb3
              go_wp2_with fail
              go_roundw
              case rel => exact ⟨(j + 1) + 1, by omega, by go_num, O3.out, HB3.out⟩
              case measure => simp [intOf]; omega
        · have ek : lowT l k = lowM l := by have : k = l.length := by omega
                                            rw [this]; rfl
          have HX : Hid (P (.returned (.tuple #[u4, .int .i64 0])) wr) := HE.out _ _ (by rw [← ek]; exact OW.out) HB.out
          obtain ⟨va, vn, vc, rfl⟩ : ∃ a n c, u4 = .slice a n c := by obtain ⟨a, c, e, _⟩ := MlR.ownd OW.out; exact ⟨_, _, _, e⟩
          clear ek hll
          go_wp2_with fail
          exact HX.out
end Go.Proofs.YthakibcfmbkpkaaDoor

namespace Go.Proofs.YthakibcfmbkpkaaDoor
set_option maxRecDepth 100000
open Go.ChangeShapes Go.WideShapes Go.ChangeAt Go.RowKit

theorem own_slice {w : World} {base : Nat} {e : TypeId} {n : Nat} {v : Value} {xs : List Value} (h : w.ownsRow base e 1 v n xs) : ∃ a c, v = .slice a n c := by
  rcases h.2 with ⟨hv, h0⟩ | ⟨g, cap, cur, hv, _⟩
  · exact ⟨none, 0, by rw [hv, h0]⟩
  · exact ⟨_, _, hv⟩
end Go.Proofs.YthakibcfmbkpkaaDoor

namespace Go.Proofs.YthakibcfmbkpkaaDoor
set_option maxRecDepth 100000
open Go.ChangeShapes Go.WideShapes Go.ChangeAt Go.RowKit

set_option maxHeartbeats 400000 in
theorem inOrderQ_any (v : Value) (l : List Ml) (w : World) (h : MlR w v l) (hl : l.length ≤ 5000) : Calls Tryd.prog 113 #[v] w fun e w' => e = .returned (.bool (srtMb l)) ∧ Below w.heap.size w w' := by
  have hcon := least_any v l w h
  obtain ⟨a, cap, rfl⟩ := h.shape
  have hel : errL l = if srtMb l then 0 else 3 := if_neg (by omega)
  rw [hel] at hcon
  generalize lowM l = lm at hcon
  cases hs : srtMb l
  · rw [hs, if_neg (by decide)] at hcon
    clear h hs hel
    go_enter Tryd.func113, Tryd.ntmps113
    go_wp2_with fail
    refine hcon.mono ?_
    rintro e w1 ⟨v1, rfl, _, hb⟩
    have HB : Hid (Below w.heap.size w w1) := hb
    clear hb
    go_wp2_with fail
    go_ret
    exact ⟨rfl, HB.out⟩
  · rw [hs, if_pos rfl] at hcon
    clear h hs hel
    go_enter Tryd.func113, Tryd.ntmps113
    go_wp2_with fail
    refine hcon.mono ?_
    rintro e w1 ⟨v1, rfl, _, hb⟩
    have HB : Hid (Below w.heap.size w w1) := hb
    clear hb
    go_wp2_with fail
    go_ret
    exact ⟨rfl, HB.out⟩

theorem madeM_zero (m : Nat) : (madeCells (Value.agg #[.int .i64 0, .int .i64 0]).cells (m * 2)).toList = (List.replicate m ((0, 0) : Ml)).flatMap encM := by
  refine List.ext_getElem? fun v => ?_
  rcases Nat.lt_or_ge v (m * 2) with hv | hv
  · have h2 : ((List.replicate m ((0, 0) : Ml)).flatMap encM)[v]? = some (.int .i64 0) := by
      have hd : v = v / 2 * 2 + v % 2 := by omega
      rw [hd]
      refine flat_at encM_len (x := (0, 0)) (by rw [List.getElem?_replicate, if_pos (by omega)]) ?_
      rcases (by omega : v % 2 = 0 ∨ v % 2 = 1) with h | h <;> rw [h] <;> rfl
    rw [h2]
    simp [madeCells, Value.cells, hv]
    rcases (by omega : v % 2 = 0 ∨ v % 2 = 1) with h | h <;> simp [h]
  · rw [List.getElem?_eq_none (by simpa [madeCells] using hv), List.getElem?_eq_none (by rw [flat_len encM_len]; simpa using hv)]
/-- make([]api.Mail, m). -/
theorem make_mails (w : World) (m : Nat) (hm : m ≤ 1000000) :
    ∃ w', (Instr.makeSlice 32 (.int .i64 (m : Int)) (.int .i64 (m : Int))).run Tryd.prog w = .ok (.slice (some ⟨w.heap.size, 0, none⟩) m m) w' ∧
      w'.ownsRow w.heap.size 75 2 (.slice (some ⟨w.heap.size, 0, none⟩) m m) m ((List.replicate m ((0, 0) : Ml)).flatMap encM) ∧ Below w.heap.size w w' := by
  obtain ⟨i0, hi, hz0, hz1, hz2⟩ := info_parts Tryd.infoM
  obtain ⟨w', h1, h2, h3⟩ := run_makeSlice_full (P := Tryd.prog) w w.heap.size 32 75 i0 _ 2 Tryd.underlying32 hi hz0 hz1 .i64 .i64 m (by omega) (by rw [hz2]; omega) (by unfold maxLen; omega) (Nat.le_refl _)
  rw [madeM_zero] at h2
  exact ⟨w', h1, h2, (Below.refl _ _).grown h3 (Nat.le_refl _) (fun k hk => by cases hk)⟩

/-- The error of a run. -/
def errR {α : Type} : Option α → Int
  | none => 3
  | some _ => 0
/-- So far: the mail l is read, the bytes r are left. -/
def RunTo (ts r0 : List Int) (k : Nat) (l : List Ml) (r : List Int) : Prop := l.length = k ∧ (∀ y ∈ r, 0 ≤ y ∧ y ≤ 255) ∧ valsC ts r0 = (valsC (ts.drop k) r).map fun p => (l ++ p.1, p.2)
theorem RunTo.zero {ts r0 : List Int} (h : ∀ y ∈ r0, 0 ≤ y ∧ y ≤ 255) : RunTo ts r0 0 [] r0 := ⟨rfl, h, by
  rw [List.drop_zero]
  cases valsC ts r0 with
  | none => rfl
  | some p => rfl⟩
theorem RunTo.bad {ts r0 r : List Int} {k : Nat} {l : List Ml} {t e : Int} (h : RunTo ts r0 k l r) (ht : ts[k]? = some t) (hg : get r = (0, 0, e)) (he : e ≠ 0) : valsC ts r0 = none := by
  obtain ⟨hk, rfl⟩ := List.getElem?_eq_some_iff.1 ht
  rw [h.2.2, List.drop_eq_getElem_cons hk, valsC_no hg he]
  rfl
theorem RunTo.step {ts r0 r : List Int} {k u : Nat} {l : List Ml} {t n : Int} (h : RunTo ts r0 k l r) (ht : ts[k]? = some t) (hg : get r = (n, u, 0)) : RunTo ts r0 (k + 1) (l ++ [(t, IntKind.i64.wrap n)]) (r.drop u) := by
  obtain ⟨hk, rfl⟩ := List.getElem?_eq_some_iff.1 ht
  refine ⟨by simp [h.1], fun y hy => h.2.1 y (List.mem_of_mem_drop hy), ?_⟩
  rw [h.2.2, List.drop_eq_getElem_cons hk, valsC_yes hg]
  cases valsC (ts.drop (k + 1)) (r.drop u) with
  | none => rfl
  | some p => simp
theorem RunTo.done {ts r0 r : List Int} {k : Nat} {l : List Ml} (h : RunTo ts r0 k l r) (hk : ts.length ≤ k) : valsC ts r0 = some (l, r) := by
  rw [h.2.2, List.drop_eq_nil_of_le hk]
  simp [valsC]
theorem runF_err {b : List Int} {e : Int} (h : ungap b = ([], 0, e)) : runF b = none := by
  unfold runF
  rw [h]
  exact if_neg fun h => by have := h.2.1; simp at this
theorem runF_len {b ts : List Int} {u : Nat} (h : ungap b = (ts, u, 0)) (hl : ¬ (1 ≤ ts.length ∧ ts.length ≤ 1000)) : runF b = none := by
  unfold runF
  rw [h]
  exact if_neg fun h => hl h.2
theorem runF_ok {b ts : List Int} {u : Nat} (h : ungap b = (ts, u, 0)) (hl : 1 ≤ ts.length ∧ ts.length ≤ 1000) : runF b = endC (valsC ts (b.drop u)) := by
  unfold runF
  rw [h]
  exact if_pos ⟨rfl, hl⟩

set_option maxHeartbeats 2000000 in
set_option maxRecDepth 100000 in
theorem unpack_any (v : Value) (b : List Int) (w : World) (h : Reads .u8 w v b) (hb : ∀ x ∈ b, 0 ≤ x ∧ x ≤ 255) : Calls Tryd.prog 109 #[v] w (RefP w (errR (runF b)) ((runF b).getD [])) := by
  have HU : Hid (∀ X, Reads .u8 X v b → Calls Tryd.prog 112 #[v] X fun e w' => ∃ v', e = .returned (.tuple #[v', .int .i64 (ungap b).2.1, .int .i64 (ungap b).2.2]) ∧ w'.ownsRow X.heap.size 3 1 v' (ungap b).1.length ((ungap b).1.map (Value.int .i64)) ∧ Below X.heap.size X w') := fun X hX => ungap_any v b X hX hb
  have HNo : Hid (runF b = none → ∀ w', Below w.heap.size w w' → RefP w (errR (runF b)) ((runF b).getD []) (.returned (.tuple #[.slice none 0 0, .int .i64 3])) w') := fun e w' hw => by rw [e]; exact RefP.no (by decide) hw
  have HYes : Hid (∀ l, runF b = some l → ∀ v w', w'.ownsRow w.heap.size 75 2 v l.length (l.flatMap encM) → Below w.heap.size w w' → RefP w (errR (runF b)) ((runF b).getD []) (.returned (.tuple #[v, .int .i64 0])) w') := fun l e v w' ho hw => by rw [e]; exact RefP.yes ho hw
  have HR : Hid (Reads .u8 w v b) := h
  obtain ⟨a, cap, rfl, _⟩ := id h
  rcases ungap_inv hb with ⟨e, he, hne⟩ | ⟨ts, u, he, _, hu, _⟩
  · have HX : Hid _ := HNo.out (runF_err he)
    generalize RefP w (errR (runF b)) ((runF b).getD []) = P at *
    rw [he] at HU
    have hne' : (e != 0) = true := by simpa using hne
    clear he hne HNo HYes h hb
    go_enter Tryd.func109, Tryd.ntmps109
    go_wp2_with fail
    refine (HU.out _ HR.out).mono ?_
    rintro e1 w1 ⟨v1, rfl, _, hb1⟩
    have HE : Hid (P (.returned (.tuple #[.slice none 0 0, .int .i64 3])) w1) := HX.out _ hb1
    clear hb1 HX
    go_wp2_with fail
    exact HE.out
  · by_cases hlen : 1 ≤ ts.length ∧ ts.length ≤ 1000
    · have HV : Hid (runF b = endC (valsC ts (b.drop u))) := runF_ok he hlen
      have HNo2 : Hid (∀ w', endC (valsC ts (b.drop u)) = none → Below w.heap.size w w' → RefP w (errR (runF b)) ((runF b).getD []) (.returned (.tuple #[.slice none 0 0, .int .i64 3])) w') := fun w' hn hw => HNo.out (HV.out.trans hn) w' hw
      have HYes2 : Hid (∀ l v w', endC (valsC ts (b.drop u)) = some l → w'.ownsRow w.heap.size 75 2 v l.length (l.flatMap encM) → Below w.heap.size w w' → RefP w (errR (runF b)) ((runF b).getD []) (.returned (.tuple #[v, .int .i64 0])) w') := fun l v w' hn ho hw => HYes.out l (HV.out.trans hn) v w' ho hw
      have hcut := run_cutV a b.length cap u hu
      have HR0 : Hid (Reads .u8 w (cutV a b.length cap u) (b.drop u)) := reads_cutV h hu
      have HZ : Hid (∀ y ∈ b.drop u, 0 ≤ y ∧ y ≤ 255) := fun y hy => hb y (List.mem_of_mem_drop hy)
      obtain ⟨hl1, hl2⟩ := hlen
      generalize RefP w (errR (runF b)) ((runF b).getD []) = P at *
      rw [he] at HU
      clear he HNo HYes h hb HV hu
      generalize b.drop u = r0 at *
      generalize cutV a b.length cap u = v0 at *
      have i1 : ¬ (ts.length : Int) < 1 := by omega
      have i2 : ¬ (1000 : Int) < (ts.length : Int) := by omega
      go_enter Tryd.func109, Tryd.ntmps109
      go_wp2_with fail
      refine (HU.out _ HR.out).mono ?_
      rintro e1 w1 ⟨v1, rfl, ho1, hb1⟩
      have OT : Hid (Reads .i64 w1 v1 ts) := reads_own ho1
      obtain ⟨a1, c1, rfl⟩ := own_slice ho1
      have hs1 := hb1.size
      have HB1 : Hid (Below w.heap.size w w1) := hb1
      have HR1 : Hid (Reads .u8 w1 v0 r0) := HR0.out.below hb1 (Nat.le_refl _)
      obtain ⟨w2, hmk, hown, hb2⟩ := make_mails w1 ts.length (by omega)
      have O2 : Hid (w2.ownsRow w1.heap.size 75 2 (.slice (some ⟨w1.heap.size, 0, none⟩) ts.length ts.length) ts.length ((List.replicate ts.length ((0, 0) : Ml)).flatMap encM)) := hown
      have HB2 : Hid (Below w1.heap.size w1 w2) := hb2
      clear hb1 ho1 HR HR0 HU hown hb2
      go_wp2_with fail
      go_loopw [7, 40] (fun x i wr => ∃ (k : Nat) (l : List Ml) (r : List Int), k ≤ ts.length ∧ i = .int .i64 k ∧ RunTo ts r0 k l r ∧ Reads .u8 w1 x r ∧ wr.ownsRow w1.heap.size 75 2 (.slice (some ⟨w1.heap.size, 0, none⟩) ts.length ts.length) ts.length ((l ++ List.replicate (ts.length - k) ((0, 0) : Ml)).flatMap encM) ∧ Below w1.heap.size w1 wr) (fun _ i _ => ts.length - (intOf i).toNat)
      case atStart => exact ⟨0, [], r0, by omega, rfl, RunTo.zero HZ.out, HR1.out, by simpa using O2.out, HB2.out⟩
      case round =>
        obtain ⟨k, l, r, hk, rfl, hto, hrx, hown, hbel⟩ := hrel
        have TO : Hid (RunTo ts r0 k l r) := hto
        have RX : Hid (Reads .u8 wr u7 r) := hrx.below hbel (Nat.le_refl _)
        have RX1 : Hid (Reads .u8 w1 u7 r) := hrx
        have OW : Hid (wr.ownsRow w1.heap.size 75 2 (.slice (some ⟨w1.heap.size, 0, none⟩) ts.length ts.length) ts.length ((l ++ List.replicate (ts.length - k) ((0, 0) : Ml)).flatMap encM)) := hown
        have HB : Hid (Below w1.heap.size w1 wr) := hbel
        have hsr := hbel.size
        have hll := hto.1
        clear hto hrx hown hbel O2 HB2 hmk HR1
        obtain ⟨xa, xc, rfl, _⟩ := id RX.out
        by_cases hlt : k < ts.length
        · obtain ⟨tb, tq, tc, e1, _, _, tlt, hv⟩ := (OT.out.below HB.out (Nat.le_refl _)).plain (by omega)
          injection e1 with e1 e2 e3
          subst e1 e3
          clear e2
          have hck := hv k hlt
          have HT : Hid (ts[k]? = some (ts.getD k 0)) := by show _ = _; rw [List.getD_eq_getElem?_getD, List.getElem?_eq_getElem hlt]; rfl
          generalize ts.getD k 0 = t at *
          have p0 : (0 : Int) ≤ (k : Int) := by omega
          have p1 : (k : Int) < (ts.length : Int) := by omega
          have hfz := frozenK OW.out
          have HG : Hid (∀ X, Reads .u8 X (.slice xa r.length xc) r → Calls Tryd.prog 72 #[.slice xa r.length xc] X fun e w' => e = .returned (.tuple #[.int .u64 (get r).1, .int .i64 (get r).2.1, .int .i64 (get r).2.2]) ∧ w' = X) := fun X hX => get_any _ _ X hX TO.out.2.1
          clear hv
          rcases get_inv TO.out.2.1 with ⟨e, he, hne⟩ | ⟨n, rr, he, hl, h0, h1⟩
          · have HE : Hid (P (.returned (.tuple #[.slice none 0 0, .int .i64 3])) wr) := HNo2.out wr (by rw [TO.out.bad HT.out he hne]; rfl) (HB1.out.trans (HB.out.mono hs1))
            have hne' : (e != 0) = true := by simpa using hne
            rw [he] at HG
            clear he hne
            go_wp2_with fail
            refine (HG.out _ RX.out).mono ?_
            rintro e w' ⟨rfl, rfl⟩
            go_wp2_with fail
            exact HE.out
          · have hp := put_len n
            have hpl : (put n).length ≤ r.length := by rw [hl]; simp
            have TO2 : Hid (RunTo ts r0 (k + 1) (l ++ [(t, IntKind.i64.wrap n)]) (r.drop (put n).length)) := TO.out.step HT.out he
            have hcut := run_cutV xa r.length xc _ hpl
            have RX2 : Hid (Reads .u8 w1 (cutV xa r.length xc (put n).length) (r.drop (put n).length)) := reads_cutV RX1.out hpl
            have O2 : Hid ((putM wr w1.heap.size (k * 2) (t, IntKind.i64.wrap n)).ownsRow w1.heap.size 75 2 (.slice (some ⟨w1.heap.size, 0, none⟩) ts.length ts.length) ts.length (((l ++ [(t, IntKind.i64.wrap n)]) ++ List.replicate (ts.length - (k + 1)) ((0, 0) : Ml)).flatMap encM) ∧ Below w1.heap.size w1 (putM wr w1.heap.size (k * 2) (t, IntKind.i64.wrap n))) := by
              refine ⟨?_, below_putM HB.out (Nat.le_refl _) _⟩
              have hh := ownM_put OW.out (p := k) (by simp; omega) (t, IntKind.i64.wrap n)
              have e1 : (l ++ List.replicate (ts.length - k) ((0, 0) : Ml)).set k (t, IntKind.i64.wrap n) = (l ++ [(t, IntKind.i64.wrap n)]) ++ List.replicate (ts.length - (k + 1)) ((0, 0) : Ml) := by
                rw [show ts.length - k = (ts.length - (k + 1)) + 1 by omega, List.replicate_succ, ← hll, setM_mid, List.append_assoc]
                rfl
              rw [e1] at hh
              exact hh
            obtain ⟨d1, d2⟩ := ownM_at OW.out (i := k) (x := (0, 0)) (by rw [List.getElem?_append_right (by omega), hll, Nat.sub_self, List.getElem?_replicate, if_pos (by omega)])
            have d3 : (wr.setCell ⟨w1.heap.size, k * 2, none⟩ (.int .i64 t)).cell? ⟨w1.heap.size, k * 2 + 1, none⟩ = some (.int .i64 0) := (cellM_far (by omega)).trans d2
            unfold putM at O2
            simp only at O2
            rw [he] at HG
            clear he hl hll OW TO
            generalize (put n).length = pu at *
            generalize hz : IntKind.i64.wrap n = z at *
            go_wp2_with fail
            refine (HG.out _ RX.out).mono ?_
            rintro e w' ⟨rfl, rfl⟩
            generalize cutV xa r.length xc pu = v2 at *
            go_wp2_with fail
            go_roundw
            case rel => exact ⟨k + 1, _, _, by omega, by go_num, TO2.out, RX2.out, O2.out.1, O2.out.2⟩
            case measure => simp [intOf]; omega
        · have ek : k = ts.length := by omega
          have HD : Hid (valsC ts r0 = some (l, r)) := TO.out.done (by omega)
          have O2 : Hid (wr.ownsRow w.heap.size 75 2 (.slice (some ⟨w1.heap.size, 0, none⟩) ts.length ts.length) l.length (l.flatMap encM)) := by
            have h := own_lower OW.out hs1
            rw [ek, Nat.sub_self, List.replicate_zero, List.append_nil] at h
            show World.ownsRow _ _ _ _ _ _ _
            rw [show l.length = ts.length by omega]
            exact h
          have ML : Hid (MlR wr (.slice (some ⟨w1.heap.size, 0, none⟩) ts.length ts.length) l) := MlR.ownd O2.out
          have hl5 : l.length ≤ 5000 := by omega
          have HBW : Hid (Below w.heap.size w wr) := HB1.out.trans (HB.out.mono hs1)
          have hsw := HBW.out.size
          clear ek hll OW TO OT RX1 HB
          by_cases hr : r = []
          · subst hr
            have HA : Hid (∀ X, MlR X (.slice (some ⟨w1.heap.size, 0, none⟩) ts.length ts.length) l → Calls Tryd.prog 111 #[.slice (some ⟨w1.heap.size, 0, none⟩) ts.length ts.length] X fun e w' => e = .returned (.bool (!mayA l)) ∧ Below X.heap.size X w') := fun X hX => anyBarred_any _ l X hX
            cases hma : mayA l
            · have HN : Hid (∀ w', Below w.heap.size w w' → P (.returned (.tuple #[.slice none 0 0, .int .i64 3])) w') := fun w' hw => HNo2.out w' (by rw [HD.out]; exact endC_may hma) hw
              rw [hma] at HA
              clear hma HD
              go_wp2_with fail
              refine (HA.out _ ML.out).mono ?_
              rintro e w3 ⟨rfl, hb3⟩
              have HE : Hid (P (.returned (.tuple #[.slice none 0 0, .int .i64 3])) w3) := HN.out w3 (HBW.out.trans (hb3.mono hsw))
              clear hb3
              go_wp2_with fail
              exact HE.out
            · have HI : Hid (∀ X, MlR X (.slice (some ⟨w1.heap.size, 0, none⟩) ts.length ts.length) l → Calls Tryd.prog 113 #[.slice (some ⟨w1.heap.size, 0, none⟩) ts.length ts.length] X fun e w' => e = .returned (.bool (srtMb l)) ∧ Below X.heap.size X w') := fun X hX => inOrderQ_any _ l X hX hl5
              rw [hma] at HA
              cases hso : srtMb l
              · have HN : Hid (∀ w', Below w.heap.size w w' → P (.returned (.tuple #[.slice none 0 0, .int .i64 3])) w') := fun w' hw => HNo2.out w' (by rw [HD.out]; exact endC_srt hso) hw
                rw [hso] at HI
                clear hma hso HD
                go_wp2_with fail
                refine (HA.out _ ML.out).mono ?_
                rintro e w3 ⟨rfl, hb3⟩
                have B3 : Hid (Below w.heap.size w w3) := HBW.out.trans (hb3.mono hsw)
                have M3 : Hid (MlR w3 (.slice (some ⟨w1.heap.size, 0, none⟩) ts.length ts.length) l) := ML.out.below hb3 (Nat.le_refl _)
                clear hb3
                go_wp2_with fail
                refine (HI.out _ M3.out).mono ?_
                rintro e w4 ⟨rfl, hb4⟩
                have HE : Hid (P (.returned (.tuple #[.slice none 0 0, .int .i64 3])) w4) := HN.out w4 (B3.out.trans (hb4.mono B3.out.size))
                clear hb4
                go_wp2_with fail
                exact HE.out
              · have HN : Hid (∀ w', w'.ownsRow w.heap.size 75 2 (.slice (some ⟨w1.heap.size, 0, none⟩) ts.length ts.length) l.length (l.flatMap encM) → Below w.heap.size w w' → P (.returned (.tuple #[.slice (some ⟨w1.heap.size, 0, none⟩) ts.length ts.length, .int .i64 0])) w') := fun w' ho hw => HYes2.out l _ w' (by rw [HD.out]; exact endC_yes hma hso) ho hw
                rw [hso] at HI
                clear hma hso HD
                go_wp2_with fail
                refine (HA.out _ ML.out).mono ?_
                rintro e w3 ⟨rfl, hb3⟩
                have B3 : Hid (Below w.heap.size w w3) := HBW.out.trans (hb3.mono hsw)
                have M3 : Hid (MlR w3 (.slice (some ⟨w1.heap.size, 0, none⟩) ts.length ts.length) l) := ML.out.below hb3 (Nat.le_refl _)
                have O3 : Hid (w3.ownsRow w.heap.size 75 2 (.slice (some ⟨w1.heap.size, 0, none⟩) ts.length ts.length) l.length (l.flatMap encM)) := own_below O2.out hb3 (Nat.le_refl _)
                clear hb3
                go_wp2_with fail
                refine (HI.out _ M3.out).mono ?_
                rintro e w4 ⟨rfl, hb4⟩
                have HE : Hid (P (.returned (.tuple #[.slice (some ⟨w1.heap.size, 0, none⟩) ts.length ts.length, .int .i64 0])) w4) := HN.out w4 (own_below O3.out hb4 (Nat.le_refl _)) (B3.out.trans (hb4.mono B3.out.size))
                clear hb4
                go_wp2_with fail
                exact HE.out
          · have HE : Hid (P (.returned (.tuple #[.slice none 0 0, .int .i64 3])) wr) := HNo2.out wr (by rw [HD.out]; exact endC_more hr) HBW.out
            have hrl : (0 : Int) < (r.length : Int) := by
              cases r with
              | nil => exact absurd rfl hr
              | cons x r => simp
            clear hr HD RX
            generalize r.length = rl at *
            go_wp2_with fail
            exact HE.out
    · have HX : Hid _ := HNo.out (runF_len he hlen)
      generalize RefP w (errR (runF b)) ((runF b).getD []) = P at *
      rw [he] at HU
      clear he HNo HYes h hb
      go_enter Tryd.func109, Tryd.ntmps109
      go_wp2_with fail
      refine (HU.out _ HR.out).mono ?_
      rintro e1 w1 ⟨v1, rfl, ho1, hb1⟩
      obtain ⟨a1, c1, rfl⟩ := own_slice ho1
      have HE : Hid (P (.returned (.tuple #[.slice none 0 0, .int .i64 3])) w1) := HX.out _ hb1
      clear hb1 HX ho1
      by_cases h1 : (ts.length : Int) < 1
      · go_wp2_with fail
        exact HE.out
      · have h2 : (1000 : Int) < ts.length := by omega
        go_wp2_with fail
        exact HE.out
end Go.Proofs.YthakibcfmbkpkaaDoor

namespace Go.Proofs.YthakibcfmbkpkaaDoor
set_option maxRecDepth 100000
open Go.ChangeShapes Go.WideShapes Go.ChangeAt Go.RowKit

theorem Tryd.infoLm : (Tryd.prog.info? 32).map (fun i => (i.zero, i.size, i.bytes)) = some (some (.slice none 0 0), 1, 24) := by kernel_rfl
/-- A list of lists of mail, each of the call's own. -/
def OwnLm (w : World) (base : Nat) (v : Value) (f : List (List Ml)) : Prop :=
  ∃ vs : List Value, vs.length = f.length ∧ w.ownsRow base 32 1 v f.length vs ∧ ∀ (j : Nat) (u : Value) (l : List Ml), vs[j]? = some u → f[j]? = some l → w.ownsRow base 75 2 u l.length (l.flatMap encM)
theorem OwnLm.nil (w : World) (base : Nat) : OwnLm w base (.slice none 0 0) [] := ⟨[], rfl, World.ownsRow_nil _ _ _ _, fun j u l h => by simp at h⟩
theorem OwnLm.row {w : World} {base : Nat} {v : Value} {f : List (List Ml)} (h : OwnLm w base v f) : ∃ vs, w.ownsRow base 32 1 v f.length vs := by obtain ⟨vs, _, h, _⟩ := h; exact ⟨vs, h⟩
theorem own_geM {w : World} {base n size g : Nat} {e : TypeId} {v : Value} {xs : List Value} (h : w.ownsRow base e size v n xs) (hg : v.ownBlock = some g) : base ≤ g ∧ g < w.heap.size := h.lt g hg
theorem OwnLm.kept {S : Nat → Prop} {w w' : World} {base : Nat} {v : Value} {f : List (List Ml)} (h : OwnLm w base v f) (hk : Kept S w w') (hs : ∀ g, base ≤ g → ¬ S g) : OwnLm w' base v f := by
  obtain ⟨vs, h1, h2, h3⟩ := h
  exact ⟨vs, h1, hk.own h2 fun g hg => hs g (own_geM h2 hg).1, fun j u l hu hl => hk.own (h3 j u l hu hl) fun g hg => hs g (own_geM (h3 j u l hu hl) hg).1⟩
/-- Boxes of another type are written. -/
theorem OwnLm.box {w : World} {base q i : Nat} {v u : Value} {f : List (List Ml)} {cs : Array Value} {t : TypeId} {fr : Nat × Nat} (h : OwnLm w base v f) (hq : w.heap[q]? = some (.cells cs t fr)) (h1 : 32 ≠ t) (h2 : 75 ≠ t) : OwnLm (w.setCell ⟨q, i, none⟩ u) base v f := by
  obtain ⟨vs, k1, k2, k3⟩ := h
  exact ⟨vs, k1, (Kept.box w q i u).own k2 fun g hg => own_block k2 hg hq h1, fun j x l hx hl => (Kept.box w q i u).own (k3 j x l hx hl) fun g hg => own_block (k3 j x l hx hl) hg hq h2⟩
theorem OwnLm.lower {w : World} {base b : Nat} {v : Value} {f : List (List Ml)} (h : OwnLm w base v f) (hb : b ≤ base) : OwnLm w b v f := by
  obtain ⟨vs, h1, h2, h3⟩ := h
  exact ⟨vs, h1, own_lower h2 hb, fun j u l hu hl => own_lower (h3 j u l hu hl) hb⟩
/-- Another list of lists grows. -/
theorem OwnLm.grown {w w' : World} {base b n : Nat} {v r : Value} {f : List (List Ml)} {xs : List Value} (h : OwnLm w base v f) (hr : w.ownsRow b 32 1 r n xs) (hg : w.grownBy w' r.ownBlock) (ha : v.ownBlock = none ∨ v.ownBlock ≠ r.ownBlock) : OwnLm w' base v f := by
  obtain ⟨vs, h1, h2, h3⟩ := h
  exact ⟨vs, h1, h2.kept hg ha, fun j u l hu hl => (h3 j u l hu hl).kept hg (own_apart (h3 j u l hu hl) hr (by decide))⟩
/-- Two slices lie in other blocks. -/
def AptM (v u : Value) : Prop := ∀ g, v.ownBlock = some g → u.ownBlock = some g → False
theorem AptM.symm {v u : Value} (h : AptM v u) : AptM u v := fun g h1 h2 => h g h2 h1
theorem AptM.or {v u : Value} (h : AptM v u) : v.ownBlock = none ∨ v.ownBlock ≠ u.ownBlock := by
  cases hv : v.ownBlock with
  | none => exact .inl rfl
  | some g => exact .inr fun e => h g hv e.symm
theorem AptM.nil (u : Value) : AptM (.slice none 0 0) u := fun g h _ => by cases h
/-- One more list. -/
theorem run_append_lm {w : World} (ty : TypeId) (base : Nat) (v : Value) (f : List (List Ml)) (h : OwnLm w base v f) (B : Nat) (p : Value) (x : List Ml) (fr : Nat × Nat) (hB : w.heap[B]? = some (.cells #[p] 32 fr)) (hp : w.ownsRow base 75 2 p x.length (x.flatMap encM)) (hlen : (f.length + 1) * 24 ≤ 140737488355328) (hbase : base ≤ w.heap.size) :
    ∃ g c w', (Builtin.append_ #[135, 135] ty #[v, .slice (some ⟨B, 0, none⟩) 1 1]).run Tryd.prog w = .ok (.slice (some ⟨g, 0, none⟩) (f.length + 1) c) w' ∧ OwnLm w' base (.slice (some ⟨g, 0, none⟩) (f.length + 1) c) (f ++ [x]) ∧ w.grownBy w' v.ownBlock ∧ (v.ownBlock = some g ∨ g = w.heap.size) := by
  obtain ⟨i0, hi, hz0, hz1, hz2⟩ := info_parts Tryd.infoLm
  obtain ⟨vs, h1, h2, h3⟩ := h
  have hone : p.oneCell' = true := by
    rcases own_shapeK hp with ⟨rfl, _⟩ | ⟨g, cap, rfl, _⟩ <;> rfl
  obtain ⟨g, c, w', hrun, ho, hg, hl, _⟩ := run_append_lies (P := Tryd.prog) w 135 ty base 32 i0 (.slice none 0 0) 1 24 Tryd.underlying135 hi hz0 hz1 hz2 rfl (by decide) v f.length vs h2
    ⟨B, 0, none⟩ 1 1 [p] rfl (by have := World.news_of_block hB; simpa using this) (fun u hu => by simp at hu; subst hu; exact hone) (by omega) (by unfold maxLen; omega) (by omega) hbase _ rfl
  refine ⟨g, c, w', hrun, ⟨vs ++ [p], by simp [h1], by simpa using ho, fun j u l hu hl => ?_⟩, hg, hl⟩
  by_cases hj : j < vs.length
  · rw [List.getElem?_append_left hj] at hu
    rw [List.getElem?_append_left (by omega)] at hl
    exact (h3 j u l hu hl).kept hg (own_apart (h3 j u l hu hl) h2 (by decide))
  · have hj2 : j = vs.length := by have := (List.getElem?_eq_some_iff.1 hu).1; simp at this; omega
    subst hj2
    rw [List.getElem?_concat_length] at hu
    rw [h1, List.getElem?_concat_length] at hl
    injection hu with hu
    injection hl with hl
    subst hu hl
    exact hp.kept hg (own_apart hp h2 (by decide))

/-- The same as a law for the walk. -/
theorem wpList_append_lm {w : World} {ops : Array Oper} {rest : List Oper} {o : Oper} {a : Act} {Q : Exit → Act → World → Prop} (hgd : o.guard = none) (s y : Operand)
    (ho : o.op = .call { callee := .builtin .append, args := #[s, y], argTypes := #[135, 135] })
    (base : Nat) (v : Value) (f : List (List Ml)) (hs : a.eval s = v) (hown : OwnLm w base v f) (B : Nat) (p : Value) (x : List Ml) (hy : a.eval y = .slice (some ⟨B, 0, none⟩) 1 1) (fr : Nat × Nat) (hB : w.heap[B]? = some (.cells #[p] 32 fr)) (hp : w.ownsRow base 75 2 p x.length (x.flatMap encM)) (hlen : (f.length + 1) * 24 ≤ 140737488355328) (hbase : base ≤ w.heap.size)
    (h : ∀ g c w', OwnLm w' base (.slice (some ⟨g, 0, none⟩) (f.length + 1) c) (f ++ [x]) → w.grownBy w' v.ownBlock → (v.ownBlock = some g ∨ g = w.heap.size) → wpList Tryd.prog ops Q rest (a.put o.dst (.slice (some ⟨g, 0, none⟩) (f.length + 1) c)) w') :
    wpList Tryd.prog ops Q (o :: rest) a w := by
  obtain ⟨g, c, w', hrun, h1, h2, h3⟩ := run_append_lm o.type base v f hown B p x fr hB hp hlen hbase
  refine wpList_plain hgd fun K' hK => ?_
  unfold Oper.wp
  simp [execOp, ho, resolve, invoke, builtin, hs, hy, hrun, Result.andThen]
  exact hK _ _ (h g c w' h1 h2 h3)

/-- A slice reads as these lists of mail. -/
def LmR (w : World) (v : Value) (f : List (List Ml)) : Prop :=
  ∃ a cap, v = .slice a f.length cap ∧ f.length ≤ cap ∧ cap ≤ maxLen ∧ (0 < f.length → ∃ b off, a = some ⟨b, off, none⟩ ∧ b < w.heap.size ∧ ∀ j l, f[j]? = some l → ∃ u, w.cell? ⟨b, off + j, none⟩ = some u ∧ MlR w u l)
theorem LmR.below {w w' : World} {v : Value} {f : List (List Ml)} {B : Nat} (h : LmR w v f) (hb : Below B w w') (hB : w.heap.size ≤ B) : LmR w' v f := by
  obtain ⟨a, cap, rfl, h1, h2, h3⟩ := h
  refine ⟨a, cap, rfl, h1, h2, fun hn => ?_⟩
  obtain ⟨b, off, rfl, lt, hv⟩ := h3 hn
  refine ⟨b, off, rfl, Nat.lt_of_lt_of_le lt hb.size, fun j l hl => ?_⟩
  obtain ⟨u, hu, hr⟩ := hv j l hl
  exact ⟨u, (hb.cell (p := ⟨b, off + j, none⟩) (show b < B by omega)).trans hu, hr.below hb hB⟩
theorem LmR.nil (w : World) : LmR w (.slice none 0 0) [] := ⟨none, 0, rfl, by simp, by simp [maxLen], fun h => by simp at h⟩
theorem OwnLm.reads {w : World} {base : Nat} {v : Value} {f : List (List Ml)} (h : OwnLm w base v f) : LmR w v f := by
  obtain ⟨vs, h1, h2, h3⟩ := h
  rcases own_cases h2 with ⟨rfl, h0, _⟩ | ⟨g, cap, rfl, _, hl, hc, hm, hcell⟩
  · have : f = [] := List.eq_nil_of_length_eq_zero h0
    subst this
    exact LmR.nil w
  · refine ⟨_, cap, rfl, hc, hm, fun _ => ⟨g, 0, rfl, hl, fun j l hj => ?_⟩⟩
    have hjl : j < vs.length := by rw [h1]; exact (List.getElem?_eq_some_iff.1 hj).1
    have hu : vs[j]? = some vs[j] := List.getElem?_eq_getElem hjl
    have := hcell j _ hu
    rw [addr_add] at this
    rw [Nat.zero_add]
    exact ⟨_, this, RowK.own encM_len (h3 j _ l hu hj)⟩
theorem LmR.at {w : World} {v : Value} {f : List (List Ml)} (h : LmR w v f) (hn : 0 < f.length) : ∃ b off cap, v = .slice (some ⟨b, off, none⟩) f.length cap ∧ b < w.heap.size ∧ f.length ≤ cap ∧ cap ≤ maxLen ∧ ∀ j l, f[j]? = some l → ∃ u, w.cell? ⟨b, off + j, none⟩ = some u ∧ MlR w u l := by
  obtain ⟨a, cap, rfl, h1, h2, h3⟩ := h
  obtain ⟨b, off, rfl, lt, hv⟩ := h3 hn
  exact ⟨b, off, cap, rfl, lt, h1, h2, hv⟩
end Go.Proofs.YthakibcfmbkpkaaDoor

namespace Go.Proofs.YthakibcfmbkpkaaDoor
set_option maxRecDepth 100000
open Go.ChangeShapes Go.WideShapes Go.ChangeAt Go.RowKit

theorem addr_addrM (a : Addr) (i j : Nat) : (a.add i).add j = a.add (i + j) := Go.Deep.add_add a i j
theorem cells3M : Tryd.prog.cellsOf 3 = 1 := by kernel_rfl

/-- One struct of two numbers, opened. -/
theorem open_two {H : Type} {enc : TypeId × Value → H} {w : World} {n : Nat} {t : TypeId} {f0 f1 : Field} (ht : Tryd.prog.underlying t = some (.struct #[f0, f1])) (hsz2 : Tryd.prog.cellsOf t = 2) (t0 : f0.type = 3) (t1 : f1.type = 3) (o0 : f0.offset = 0) (o1 : f1.offset = 1)
    {cs : List Value} {x : DataW H × List MemPlace} (h : DataW.trod enc Tryd.prog w 0 (fun _ => true) true n t cs = some x) :
    ∃ e : Ml, cs = encM e ∧ mlB e := by
  obtain ⟨y0, y1, m, rfl, hl, h0, h1⟩ := trod_struct2 ht h
  rw [hsz2] at hl
  rw [t0, o0] at h0
  rw [t1, o1] at h1
  match cs, hl with
  | [c0, c1], _ =>
    simp only [cells3M, List.drop_zero, List.drop_succ_cons, List.take_succ_cons, List.take_zero] at h0 h1
    obtain ⟨i0, e0, _, hi0⟩ := DataW.trod_int Tryd.underlying3 h0
    obtain ⟨i1, e1, _, hi1⟩ := DataW.trod_int Tryd.underlying3 h1
    simp only [List.cons.injEq, and_true] at e0 e1
    subst e0 e1
    exact ⟨(i0, i1), rfl, bounds_i64 hi0, bounds_i64 hi1⟩

set_option maxHeartbeats 400000 in
/-- A slice of structs of two numbers. -/
theorem open_twos {H : Type} {enc : TypeId × Value → H} {W : World} {t e : TypeId} {f0 f1 : Field} (hu : Tryd.prog.underlying t = some (.slice e)) (ht : Tryd.prog.underlying e = some (.struct #[f0, f1])) (hsz2 : Tryd.prog.cellsOf e = 2) (t0 : f0.type = 3) (t1 : f1.type = 3) (o0 : f0.offset = 0) (o1 : f1.offset = 1) (hby : Tryd.prog.bytesOf e = 16)
    {fuel : Nat} {v : Value} {y : DataW H × List MemPlace} (hf : DataW.trod enc Tryd.prog W 0 (fun _ => true) true fuel t [v] = some y) (hs : ∀ m ∈ y.1.weights Tryd.prog t, m ≤ reachBytes) :
    ∃ es, MlR W v es ∧ (∀ x ∈ es, mlB x) ∧ es.length * 16 ≤ 140737488351232 := by
  rcases Go.Deep.open_slice hu hf with ⟨e1, _⟩ | ⟨a, len, cap, m, n', D, Pl, e1, _, hl, hm, hmm, rfl, hel⟩
  · simp only [List.cons.injEq, and_true] at e1
    subst e1
    exact ⟨[], RowK.nil _ _ _, by simp, by simp⟩
  · simp only [List.cons.injEq, and_true] at e1
    subst e1
    simp only [if_true] at hmm
    subst hmm
    have hw : (((List.range len).map D).length + ((List.range (m - len)).map fun j => D (len + j)).length) * Tryd.prog.bytesOf e ≤ reachBytes := by
      refine hs _ ?_
      simp [DataW.weights, hu]
    rw [hby] at hw
    simp only [List.length_map, List.length_range, reachBytes] at hw
    rw [hsz2] at hel
    have each : ∀ i, i < len → ∃ y : Ml, (∀ j u, (encM y)[j]? = some u → W.cell? ⟨a.block, a.off + i * 2 + j, none⟩ = some u) ∧ a.spot = none ∧ a.block < W.heap.size ∧ mlB y := by
      intro i hi
      obtain ⟨cs', hc, htr⟩ := hel i (by omega)
      obtain ⟨x, rfl, hb⟩ := open_two ht hsz2 t0 t1 o0 o1 htr
      obtain ⟨_, _, hcell⟩ := World.cells?_some hc
      have hsp : a.spot = none := by
        obtain ⟨cs0, hc0, ht0⟩ := hel 0 (by omega)
        obtain ⟨_, hl0, hcell0⟩ := World.cells?_some hc0
        have q0 := hcell0 0 (by omega)
        have e0 : (a.add (0 * 2)).add 0 = a := by simp [Addr.add]
        rw [e0] at q0
        rw [List.getElem?_eq_getElem (by omega)] at q0
        exact World.cell?_spot q0
      obtain ⟨ab, ao, asp⟩ := a
      simp only at hsp
      subst hsp
      have hadd : ∀ t, (⟨ab, ao, none⟩ : Addr).add t = ⟨ab, ao + t, none⟩ := fun t => by unfold Addr.add; split <;> simp_all
      have hk : ∀ j, j < 2 → W.cell? ⟨ab, ao + i * 2 + j, none⟩ = (encM x)[j]? := fun j hj => by
        have := hcell j hj
        rw [addr_addrM, hadd, ← Nat.add_assoc] at this
        exact this
      refine ⟨x, fun j u hju => ?_, rfl, World.block_lt_of_cell? W ⟨ab, ao + i * 2 + 0, none⟩ (hk 0 (by omega)), hb⟩
      have hj : j < 2 := by
        rcases Nat.lt_or_ge j 2 with h' | h'
        · exact h'
        · rw [List.getElem?_eq_none h'] at hju; cases hju
      rw [hk j hj]; exact hju
    obtain ⟨F, hF⟩ := @Go.Deep.choose_lt Ml ⟨(0, 0)⟩ len _ each
    have hfl : ((List.range len).map F).length = len := by simp
    refine ⟨(List.range len).map F, ⟨some a, m, by rw [hfl], by rw [hfl]; exact hl, hm, fun e => (by cases e), fun hn => ?_⟩, fun x hx => ?_, by rw [hfl]; omega⟩
    · rw [hfl] at hn
      obtain ⟨_, hsp, hlt, _⟩ := hF 0 hn
      refine ⟨a.block, a.off, by obtain ⟨ab, ao, asp⟩ := a; simp only at hsp; subst hsp; rfl, hlt, fun i x hx j u hju => ?_⟩
      rw [List.getElem?_map] at hx
      rcases Nat.lt_or_ge i len with h' | h'
      · rw [List.getElem?_range h'] at hx
        simp at hx
        subst hx
        exact (hF i h').1 j u hju
      · rw [List.getElem?_eq_none (by simpa using h')] at hx; cases hx
    · obtain ⟨i, hi, rfl⟩ := List.mem_map.1 hx
      exact (hF i (by simpa using hi)).2.2.2


theorem open_pair {H : Type} {enc : TypeId × Value → H} {W : World} {t : TypeId} {f0 f1 : Field} (ht : Tryd.prog.underlying t = some (.struct #[f0, f1])) (hsz2 : Tryd.prog.cellsOf t = 2) (t0 : f0.type = 3) (t1 : f1.type = 3) (o0 : f0.offset = 0) (o1 : f1.offset = 1)
    {v0 : Value} {d0 : DataW H} {p0 : List MemPlace} (hv : ∃ cs, v0 = .agg cs ∧ cs.size = Tryd.prog.cellsOf t) (h0 : DataW.Trod enc Tryd.prog W 0 (fun _ => true) true t v0 d0 p0) :
    ∃ e : Ml, v0 = .agg #[.int .i64 e.1, .int .i64 e.2] ∧ mlB e := by
  obtain ⟨cs, rfl, hcs⟩ := hv
  obtain ⟨fuel, hf⟩ := h0
  obtain ⟨e, he, hb⟩ := open_two ht hsz2 t0 t1 o0 o1 hf
  refine ⟨e, ?_, hb⟩
  obtain ⟨l⟩ := cs
  have : l = encM e := he
  rw [this]
  rfl
end Go.Proofs.YthakibcfmbkpkaaDoor

namespace Go.Proofs.YthakibcfmbkpkaaDoor
set_option maxRecDepth 100000
open Go.ChangeShapes Go.WideShapes Go.ChangeAt Go.RowKit

theorem open_mailsF {H : Type} {enc : TypeId × Value → H} {W : World} {fuel : Nat} {v : Value} {y : DataW H × List MemPlace} (hf : DataW.trod enc Tryd.prog W 0 (fun _ => true) true fuel 32 [v] = some y) (hs : ∀ m ∈ y.1.weights Tryd.prog 32, m ≤ reachBytes) :
    ∃ es, MlR W v es ∧ (∀ x ∈ es, mlB x) ∧ es.length * 16 ≤ 140737488351232 :=
  open_twos Tryd.underlying32 Tryd.underlying75 (by kernel_rfl) rfl rfl rfl rfl (by kernel_rfl) hf hs
theorem cells_one {a : Option Addr} {len cap : Nat} : (Value.slice a len cap).cells.toList = [.slice a len cap] := rfl
theorem open_mails {H : Type} {enc : TypeId × Value → H} {W : World} {v0 : Value} {d0 : DataW H} {p0 : List MemPlace} (hv : ∃ a len cap, v0 = .slice a len cap) (h0 : DataW.Trod enc Tryd.prog W 0 (fun _ => true) true 32 v0 d0 p0)
    (hs : ∀ m ∈ d0.weights Tryd.prog 32, m ≤ reachBytes) : ∃ es, MlR W v0 es ∧ (∀ x ∈ es, mlB x) ∧ es.length * 16 ≤ 140737488351232 := by
  obtain ⟨a, len, cap, rfl⟩ := hv
  obtain ⟨fuel, hf⟩ := h0
  exact open_mailsF hf hs
end Go.Proofs.YthakibcfmbkpkaaDoor

namespace Go.Proofs.YthakibcfmbkpkaaDoor
set_option maxRecDepth 100000
open Go.ChangeShapes Go.WideShapes Go.ChangeAt Go.RowKit

theorem weights_allM {H : Type} {P : Program} {e : TypeId} : ∀ {ds : List (DataW H)} {d : DataW H}, d ∈ ds → ∀ n ∈ d.weights P e, n ∈ DataW.weightsAll P e ds
  | d0 :: ds, d, hd, n, hn => by
    simp only [DataW.weightsAll, List.mem_append]
    rcases List.mem_cons.1 hd with rfl | hd
    · exact .inl hn
    · exact .inr (weights_allM hd n hn)
set_option maxHeartbeats 400000 in
/-- Lists of mail. -/
theorem open_lists {H : Type} {enc : TypeId × Value → H} {W : World} {v0 : Value} {d0 : DataW H} {p0 : List MemPlace} (hv : ∃ a len cap, v0 = .slice a len cap) (h0 : DataW.Trod enc Tryd.prog W 0 (fun _ => true) true 135 v0 d0 p0)
    (hs : ∀ m ∈ d0.weights Tryd.prog 135, m ≤ reachBytes) : ∃ f, LmR W v0 f ∧ (∀ l ∈ f, (∀ x ∈ l, mlB x) ∧ l.length * 16 ≤ 140737488351232) ∧ f.length * 24 ≤ 140737488351232 := by
  obtain ⟨a0, len0, cap0, rfl⟩ := hv
  obtain ⟨fuel, hf0⟩ := h0
  have hf : DataW.trod enc Tryd.prog W 0 (fun _ => true) true fuel 135 [.slice a0 len0 cap0] = some (d0, p0) := hf0
  rcases Go.Deep.open_slice Tryd.underlying135 hf with ⟨e1, _⟩ | ⟨a, len, cap, m, n', D, Pl, e1, _, hl, hm, hmm, hy, hel⟩
  · simp only [List.cons.injEq, and_true] at e1
    rw [e1]
    exact ⟨[], LmR.nil _, by simp, by simp⟩
  · simp only [List.cons.injEq, and_true] at e1
    rw [e1]
    simp only [if_true] at hmm
    subst hmm
    simp only [Prod.mk.injEq] at hy
    obtain ⟨rfl, _⟩ := hy
    have hc1 : Tryd.prog.cellsOf 32 = 1 := by kernel_rfl
    have hby : Tryd.prog.bytesOf 32 = 24 := by kernel_rfl
    have hw : (((List.range len).map D).length + ((List.range (m - len)).map fun j => D (len + j)).length) * Tryd.prog.bytesOf 32 ≤ reachBytes := by
      refine hs _ ?_
      simp [DataW.weights, Tryd.underlying135]
    rw [hby] at hw
    simp only [List.length_map, List.length_range, reachBytes] at hw
    rw [hc1] at hel
    have each : ∀ i, i < len → ∃ y : List Ml, (∃ u, W.cell? ⟨a.block, a.off + i, none⟩ = some u ∧ MlR W u y) ∧ a.spot = none ∧ a.block < W.heap.size ∧ (∀ x ∈ y, mlB x) ∧ y.length * 16 ≤ 140737488351232 := by
      intro i hi
      obtain ⟨cs', hc, ht⟩ := hel i (by omega)
      have hs3 : ∀ q ∈ (D i).weights Tryd.prog 32, q ≤ reachBytes := fun q hq => hs q (by
        simp only [DataW.weights, Tryd.underlying135, List.mem_cons, List.mem_append]
        exact .inr (.inl (weights_allM (List.mem_map.2 ⟨i, by simpa using hi, rfl⟩) q hq)))
      obtain ⟨_, hcl, hcell⟩ := World.cells?_some hc
      obtain ⟨u, rfl⟩ : ∃ u, cs' = [u] := by
        match cs', hcl with
        | [u], _ => exact ⟨u, rfl⟩
      obtain ⟨es, hR, hB, hL⟩ := open_mailsF ht hs3
      have k0 := hcell 0 (by omega)
      rw [addr_addrM] at k0
      simp only [List.getElem?_cons_zero] at k0
      have hsp : a.spot = none := by
        obtain ⟨cs0, hc0, ht0⟩ := hel 0 (by omega)
        obtain ⟨_, hl0, hcell0⟩ := World.cells?_some hc0
        have q0 := hcell0 0 (by omega)
        have e0 : (a.add (0 * 1)).add 0 = a := by simp [Addr.add]
        rw [e0] at q0
        rw [List.getElem?_eq_getElem (by omega)] at q0
        exact World.cell?_spot q0
      obtain ⟨ab, ao, asp⟩ := a
      simp only at hsp
      subst hsp
      rw [addr_plus] at k0
      simp only [Nat.mul_one, Nat.add_zero] at k0
      exact ⟨es, ⟨u, k0, hR⟩, rfl, World.block_lt_of_cell? W ⟨ab, ao + i, none⟩ k0, hB, hL⟩
    obtain ⟨F, hF⟩ := @Go.Deep.choose_lt (List Ml) ⟨[]⟩ len _ each
    have hfl : ((List.range len).map F).length = len := by simp
    refine ⟨(List.range len).map F, ⟨some a, m, by rw [hfl], by rw [hfl]; exact hl, hm, fun hn => ?_⟩, fun l hl2 => ?_, by rw [hfl]; omega⟩
    · rw [hfl] at hn
      obtain ⟨_, hsp, hlt, _⟩ := hF 0 hn
      refine ⟨a.block, a.off, by obtain ⟨ab, ao, asp⟩ := a; simp only at hsp; subst hsp; rfl, hlt, fun i x hx => ?_⟩
      rw [List.getElem?_map] at hx
      rcases Nat.lt_or_ge i len with h' | h'
      · rw [List.getElem?_range h'] at hx
        simp at hx
        subst hx
        exact (hF i h').1
      · rw [List.getElem?_eq_none (by simpa using h')] at hx; cases hx
    · obtain ⟨i, hi, rfl⟩ := List.mem_map.1 hl2
      exact (hF i (by simpa using hi)).2.2.2
end Go.Proofs.YthakibcfmbkpkaaDoor

namespace Go.Proofs.YthakibcfmbkpkaaDoor
set_option maxRecDepth 100000
open Go.ChangeShapes Go.WideShapes Go.ChangeAt Go.RowKit

theorem Tryd.infoBs : (Tryd.prog.info? 44).map (fun i => (i.zero, i.size, i.bytes)) = some (some (.slice none 0 0), 1, 24) := by kernel_rfl
/-- A list of slices of bytes, each of the call's own. -/
def OwnBs (w : World) (base : Nat) (v : Value) (f : List (List Int)) : Prop :=
  ∃ vs : List Value, vs.length = f.length ∧ w.ownsRow base 44 1 v f.length vs ∧ ∀ (j : Nat) (u : Value) (l : List Int), vs[j]? = some u → f[j]? = some l → w.ownsRow base 5 1 u l.length (l.map (Value.int .u8))
theorem OwnBs.nil (w : World) (base : Nat) : OwnBs w base (.slice none 0 0) [] := ⟨[], rfl, World.ownsRow_nil _ _ _ _, fun j u l h => by simp at h⟩
theorem OwnBs.row {w : World} {base : Nat} {v : Value} {f : List (List Int)} (h : OwnBs w base v f) : ∃ vs, w.ownsRow base 44 1 v f.length vs := by obtain ⟨vs, _, h, _⟩ := h; exact ⟨vs, h⟩
theorem own_geB {w : World} {base n size g : Nat} {e : TypeId} {v : Value} {xs : List Value} (h : w.ownsRow base e size v n xs) (hg : v.ownBlock = some g) : base ≤ g ∧ g < w.heap.size := h.lt g hg
theorem OwnBs.kept {S : Nat → Prop} {w w' : World} {base : Nat} {v : Value} {f : List (List Int)} (h : OwnBs w base v f) (hk : Kept S w w') (hs : ∀ g, base ≤ g → ¬ S g) : OwnBs w' base v f := by
  obtain ⟨vs, h1, h2, h3⟩ := h
  exact ⟨vs, h1, hk.own h2 fun g hg => hs g (own_geB h2 hg).1, fun j u l hu hl => hk.own (h3 j u l hu hl) fun g hg => hs g (own_geB (h3 j u l hu hl) hg).1⟩
/-- Boxes of another type are written. -/
theorem OwnBs.box {w : World} {base q i : Nat} {v u : Value} {f : List (List Int)} {cs : Array Value} {t : TypeId} {fr : Nat × Nat} (h : OwnBs w base v f) (hq : w.heap[q]? = some (.cells cs t fr)) (h1 : 44 ≠ t) (h2 : 5 ≠ t) : OwnBs (w.setCell ⟨q, i, none⟩ u) base v f := by
  obtain ⟨vs, k1, k2, k3⟩ := h
  exact ⟨vs, k1, (Kept.box w q i u).own k2 fun g hg => own_block k2 hg hq h1, fun j x l hx hl => (Kept.box w q i u).own (k3 j x l hx hl) fun g hg => own_block (k3 j x l hx hl) hg hq h2⟩
theorem OwnBs.lower {w : World} {base b : Nat} {v : Value} {f : List (List Int)} (h : OwnBs w base v f) (hb : b ≤ base) : OwnBs w b v f := by
  obtain ⟨vs, h1, h2, h3⟩ := h
  exact ⟨vs, h1, own_lower h2 hb, fun j u l hu hl => own_lower (h3 j u l hu hl) hb⟩
/-- Another list of lists grows. -/
theorem OwnBs.grown {w w' : World} {base b n : Nat} {v r : Value} {f : List (List Int)} {xs : List Value} (h : OwnBs w base v f) (hr : w.ownsRow b 44 1 r n xs) (hg : w.grownBy w' r.ownBlock) (ha : v.ownBlock = none ∨ v.ownBlock ≠ r.ownBlock) : OwnBs w' base v f := by
  obtain ⟨vs, h1, h2, h3⟩ := h
  exact ⟨vs, h1, h2.kept hg ha, fun j u l hu hl => (h3 j u l hu hl).kept hg (own_apart (h3 j u l hu hl) hr (by decide))⟩
/-- One more list. -/
theorem run_append_bs {w : World} (ty : TypeId) (base : Nat) (v : Value) (f : List (List Int)) (h : OwnBs w base v f) (B : Nat) (p : Value) (x : List Int) (fr : Nat × Nat) (hB : w.heap[B]? = some (.cells #[p] 44 fr)) (hp : w.ownsRow base 5 1 p x.length (x.map (Value.int .u8))) (hlen : (f.length + 1) * 24 ≤ 140737488355328) (hbase : base ≤ w.heap.size) :
    ∃ g c w', (Builtin.append_ #[123, 123] ty #[v, .slice (some ⟨B, 0, none⟩) 1 1]).run Tryd.prog w = .ok (.slice (some ⟨g, 0, none⟩) (f.length + 1) c) w' ∧ OwnBs w' base (.slice (some ⟨g, 0, none⟩) (f.length + 1) c) (f ++ [x]) ∧ w.grownBy w' v.ownBlock ∧ (v.ownBlock = some g ∨ g = w.heap.size) := by
  obtain ⟨i0, hi, hz0, hz1, hz2⟩ := info_parts Tryd.infoBs
  obtain ⟨vs, h1, h2, h3⟩ := h
  have hone : p.oneCell' = true := by
    rcases own_cases hp with ⟨rfl, _⟩ | ⟨g, cap, rfl, _⟩ <;> rfl
  obtain ⟨g, c, w', hrun, ho, hg, hl, _⟩ := run_append_lies (P := Tryd.prog) w 123 ty base 44 i0 (.slice none 0 0) 1 24 Tryd.underlying123 hi hz0 hz1 hz2 rfl (by decide) v f.length vs h2
    ⟨B, 0, none⟩ 1 1 [p] rfl (by have := World.news_of_block hB; simpa using this) (fun u hu => by simp at hu; subst hu; exact hone) (by omega) (by unfold maxLen; omega) (by omega) hbase _ rfl
  refine ⟨g, c, w', hrun, ⟨vs ++ [p], by simp [h1], by simpa using ho, fun j u l hu hl => ?_⟩, hg, hl⟩
  by_cases hj : j < vs.length
  · rw [List.getElem?_append_left hj] at hu
    rw [List.getElem?_append_left (by omega)] at hl
    exact (h3 j u l hu hl).kept hg (own_apart (h3 j u l hu hl) h2 (by decide))
  · have hj2 : j = vs.length := by have := (List.getElem?_eq_some_iff.1 hu).1; simp at this; omega
    subst hj2
    rw [List.getElem?_concat_length] at hu
    rw [h1, List.getElem?_concat_length] at hl
    injection hu with hu
    injection hl with hl
    subst hu hl
    exact hp.kept hg (own_apart hp h2 (by decide))

/-- The same as a law for the walk. -/
theorem wpList_append_bs {w : World} {ops : Array Oper} {rest : List Oper} {o : Oper} {a : Act} {Q : Exit → Act → World → Prop} (hgd : o.guard = none) (s y : Operand)
    (ho : o.op = .call { callee := .builtin .append, args := #[s, y], argTypes := #[123, 123] })
    (base : Nat) (v : Value) (f : List (List Int)) (hs : a.eval s = v) (hown : OwnBs w base v f) (B : Nat) (p : Value) (x : List Int) (hy : a.eval y = .slice (some ⟨B, 0, none⟩) 1 1) (fr : Nat × Nat) (hB : w.heap[B]? = some (.cells #[p] 44 fr)) (hp : w.ownsRow base 5 1 p x.length (x.map (Value.int .u8))) (hlen : (f.length + 1) * 24 ≤ 140737488355328) (hbase : base ≤ w.heap.size)
    (h : ∀ g c w', OwnBs w' base (.slice (some ⟨g, 0, none⟩) (f.length + 1) c) (f ++ [x]) → w.grownBy w' v.ownBlock → (v.ownBlock = some g ∨ g = w.heap.size) → wpList Tryd.prog ops Q rest (a.put o.dst (.slice (some ⟨g, 0, none⟩) (f.length + 1) c)) w') :
    wpList Tryd.prog ops Q (o :: rest) a w := by
  obtain ⟨g, c, w', hrun, h1, h2, h3⟩ := run_append_bs o.type base v f hown B p x fr hB hp hlen hbase
  refine wpList_plain hgd fun K' hK => ?_
  unfold Oper.wp
  simp [execOp, ho, resolve, invoke, builtin, hs, hy, hrun, Result.andThen]
  exact hK _ _ (h g c w' h1 h2 h3)

/-- A slice reads as these slices of bytes. -/
def BsR (w : World) (v : Value) (f : List (List Int)) : Prop :=
  ∃ a cap, v = .slice a f.length cap ∧ f.length ≤ cap ∧ cap ≤ maxLen ∧ (0 < f.length → ∃ b off, a = some ⟨b, off, none⟩ ∧ b < w.heap.size ∧ ∀ j l, f[j]? = some l → ∃ u, w.cell? ⟨b, off + j, none⟩ = some u ∧ Reads .u8 w u l)
theorem BsR.below {w w' : World} {v : Value} {f : List (List Int)} {B : Nat} (h : BsR w v f) (hb : Below B w w') (hB : w.heap.size ≤ B) : BsR w' v f := by
  obtain ⟨a, cap, rfl, h1, h2, h3⟩ := h
  refine ⟨a, cap, rfl, h1, h2, fun hn => ?_⟩
  obtain ⟨b, off, rfl, lt, hv⟩ := h3 hn
  refine ⟨b, off, rfl, Nat.lt_of_lt_of_le lt hb.size, fun j l hl => ?_⟩
  obtain ⟨u, hu, hr⟩ := hv j l hl
  exact ⟨u, (hb.cell (p := ⟨b, off + j, none⟩) (show b < B by omega)).trans hu, hr.below hb hB⟩
theorem BsR.nil (w : World) : BsR w (.slice none 0 0) [] := ⟨none, 0, rfl, by simp, by simp [maxLen], fun h => by simp at h⟩
theorem OwnBs.reads {w : World} {base : Nat} {v : Value} {f : List (List Int)} (h : OwnBs w base v f) : BsR w v f := by
  obtain ⟨vs, h1, h2, h3⟩ := h
  rcases own_cases h2 with ⟨rfl, h0, _⟩ | ⟨g, cap, rfl, _, hl, hc, hm, hcell⟩
  · have : f = [] := List.eq_nil_of_length_eq_zero h0
    subst this
    exact BsR.nil w
  · refine ⟨_, cap, rfl, hc, hm, fun _ => ⟨g, 0, rfl, hl, fun j l hj => ?_⟩⟩
    have hjl : j < vs.length := by rw [h1]; exact (List.getElem?_eq_some_iff.1 hj).1
    have hu : vs[j]? = some vs[j] := List.getElem?_eq_getElem hjl
    have := hcell j _ hu
    rw [addr_add] at this
    rw [Nat.zero_add]
    exact ⟨_, this, reads_own (h3 j _ l hu hj)⟩
theorem BsR.at {w : World} {v : Value} {f : List (List Int)} (h : BsR w v f) (hn : 0 < f.length) : ∃ b off cap, v = .slice (some ⟨b, off, none⟩) f.length cap ∧ b < w.heap.size ∧ f.length ≤ cap ∧ cap ≤ maxLen ∧ ∀ j l, f[j]? = some l → ∃ u, w.cell? ⟨b, off + j, none⟩ = some u ∧ Reads .u8 w u l := by
  obtain ⟨a, cap, rfl, h1, h2, h3⟩ := h
  obtain ⟨b, off, rfl, lt, hv⟩ := h3 hn
  exact ⟨b, off, cap, rfl, lt, h1, h2, hv⟩
end Go.Proofs.YthakibcfmbkpkaaDoor

namespace Go.Proofs.YthakibcfmbkpkaaDoor
set_option maxRecDepth 100000
open Go.ChangeShapes Go.WideShapes Go.ChangeAt Go.RowKit

set_option maxHeartbeats 400000 in
/-- A slice of bytes. -/
theorem open_bytesF {H : Type} {enc : TypeId × Value → H} {W : World} {fuel : Nat} {v : Value} {y : DataW H × List MemPlace} (hf : DataW.trod enc Tryd.prog W 0 (fun _ => true) true fuel 44 [v] = some y) (hs : ∀ m ∈ y.1.weights Tryd.prog 44, m ≤ reachBytes) :
    ∃ xs, Reads .u8 W v xs ∧ (∀ x ∈ xs, 0 ≤ x ∧ x ≤ 255) ∧ xs.length ≤ 140737488351232 := by
  have hc5 : Tryd.prog.cellsOf 5 = 1 := by kernel_rfl
  have hb5 : Tryd.prog.bytesOf 5 = 1 := by kernel_rfl
  rcases open_ints Tryd.underlying44 Tryd.underlying5 hc5 hf with ⟨e1, rfl⟩ | ⟨a, len, cap, zs, e1, _, hle, hm, hz, rfl, hcell, hwf⟩
  · simp only [List.cons.injEq, and_true] at e1
    subst e1
    exact ⟨[], ⟨none, 0, rfl, by simp, by simp [maxLen], fun _ => rfl, fun x hx => by cases hx⟩, by simp, by simp⟩
  · simp only [List.cons.injEq, and_true] at e1
    subst e1
    have hz2 : zs.length = cap := by simpa using hz
    have el : (zs.take len).length = len := List.length_take_of_le (by omega)
    have hw : ((zs.take len).length + (zs.drop len).length) * Tryd.prog.bytesOf 5 ≤ reachBytes := by
      refine hs _ ?_
      simp [DataW.weights, Tryd.underlying44, lits]
    rw [hb5] at hw
    simp only [List.length_take, List.length_drop, reachBytes] at hw
    refine ⟨zs.take len, ⟨some a, cap, by rw [el], by rw [el]; omega, hm, fun e => (by cases e), fun x hx j hj => ?_⟩, bytes_wf (fun n hn => hwf n (List.mem_of_mem_take hn)), by rw [el]; omega⟩
    injection hx with hx
    subst hx
    rw [el] at hj
    rw [hcell j (by omega), List.getD_eq_getElem?_getD, List.getD_eq_getElem?_getD, List.getElem?_take_of_lt hj]

set_option maxHeartbeats 400000 in
/-- Lists of slices of bytes. -/
theorem open_rowsF {H : Type} {enc : TypeId × Value → H} {W : World} {fuel : Nat} {v0 : Value} {y : DataW H × List MemPlace} (hf : DataW.trod enc Tryd.prog W 0 (fun _ => true) true fuel 123 [v0] = some y) (hs : ∀ m ∈ y.1.weights Tryd.prog 123, m ≤ reachBytes) :
    ∃ f, BsR W v0 f ∧ (∀ l ∈ f, (∀ x ∈ l, 0 ≤ x ∧ x ≤ 255) ∧ l.length ≤ 140737488351232) ∧ f.length * 24 ≤ 140737488351232 := by
  rcases Go.Deep.open_slice Tryd.underlying123 hf with ⟨e1, _⟩ | ⟨a, len, cap, m, n', D, Pl, e1, _, hl, hm, hmm, rfl, hel⟩
  · simp only [List.cons.injEq, and_true] at e1
    rw [e1]
    exact ⟨[], BsR.nil _, by simp, by simp⟩
  · simp only [List.cons.injEq, and_true] at e1
    rw [e1]
    simp only [if_true] at hmm
    subst hmm
    have hc1 : Tryd.prog.cellsOf 44 = 1 := by kernel_rfl
    have hby : Tryd.prog.bytesOf 44 = 24 := by kernel_rfl
    have hw : (((List.range len).map D).length + ((List.range (m - len)).map fun j => D (len + j)).length) * Tryd.prog.bytesOf 44 ≤ reachBytes := by
      refine hs _ ?_
      simp [DataW.weights, Tryd.underlying123]
    rw [hby] at hw
    simp only [List.length_map, List.length_range, reachBytes] at hw
    rw [hc1] at hel
    have each : ∀ i, i < len → ∃ y : List Int, (∃ u, W.cell? ⟨a.block, a.off + i, none⟩ = some u ∧ Reads .u8 W u y) ∧ a.spot = none ∧ a.block < W.heap.size ∧ (∀ x ∈ y, 0 ≤ x ∧ x ≤ 255) ∧ y.length ≤ 140737488351232 := by
      intro i hi
      obtain ⟨cs', hc, ht⟩ := hel i (by omega)
      have hs3 : ∀ q ∈ (D i).weights Tryd.prog 44, q ≤ reachBytes := fun q hq => hs q (by
        simp only [DataW.weights, Tryd.underlying123, List.mem_cons, List.mem_append]
        exact .inr (.inl (weights_allM (List.mem_map.2 ⟨i, by simpa using hi, rfl⟩) q hq)))
      obtain ⟨_, hcl, hcell⟩ := World.cells?_some hc
      obtain ⟨u, rfl⟩ : ∃ u, cs' = [u] := by
        match cs', hcl with
        | [u], _ => exact ⟨u, rfl⟩
      obtain ⟨es, hR, hB, hL⟩ := open_bytesF ht hs3
      have k0 := hcell 0 (by omega)
      rw [addr_addrM] at k0
      simp only [List.getElem?_cons_zero] at k0
      have hsp : a.spot = none := by
        obtain ⟨cs0, hc0, ht0⟩ := hel 0 (by omega)
        obtain ⟨_, hl0, hcell0⟩ := World.cells?_some hc0
        have q0 := hcell0 0 (by omega)
        have e0 : (a.add (0 * 1)).add 0 = a := by simp [Addr.add]
        rw [e0] at q0
        rw [List.getElem?_eq_getElem (by omega)] at q0
        exact World.cell?_spot q0
      obtain ⟨ab, ao, asp⟩ := a
      simp only at hsp
      subst hsp
      rw [addr_plus] at k0
      simp only [Nat.mul_one, Nat.add_zero] at k0
      exact ⟨es, ⟨u, k0, hR⟩, rfl, World.block_lt_of_cell? W ⟨ab, ao + i, none⟩ k0, hB, hL⟩
    obtain ⟨F, hF⟩ := @Go.Deep.choose_lt (List Int) ⟨[]⟩ len _ each
    have hfl : ((List.range len).map F).length = len := by simp
    refine ⟨(List.range len).map F, ⟨some a, m, by rw [hfl], by rw [hfl]; exact hl, hm, fun hn => ?_⟩, fun l hl2 => ?_, by rw [hfl]; omega⟩
    · rw [hfl] at hn
      obtain ⟨_, hsp, hlt, _⟩ := hF 0 hn
      refine ⟨a.block, a.off, by obtain ⟨ab, ao, asp⟩ := a; simp only at hsp; subst hsp; rfl, hlt, fun i x hx => ?_⟩
      rw [List.getElem?_map] at hx
      rcases Nat.lt_or_ge i len with h' | h'
      · rw [List.getElem?_range h'] at hx
        simp at hx
        subst hx
        exact (hF i h').1
      · rw [List.getElem?_eq_none (by simpa using h')] at hx; cases hx
    · obtain ⟨i, hi, rfl⟩ := List.mem_map.1 hl2
      exact (hF i (by simpa using hi)).2.2.2

/-- A queue's loose mail and its runs. -/
def QuR (w : World) (vl vr : Value) (lo : List Ml) (rs : List (List Int)) : Prop := MlR w vl lo ∧ BsR w vr rs
theorem QuR.below {w w' : World} {vl vr : Value} {lo : List Ml} {rs : List (List Int)} {B : Nat} (h : QuR w vl vr lo rs) (hb : Below B w w') (hB : w.heap.size ≤ B) : QuR w' vl vr lo rs := ⟨h.1.below hb hB, h.2.below hb hB⟩
/-- How great they may be. -/
def QuB (lo : List Ml) (rs : List (List Int)) : Prop := ((∀ x ∈ lo, mlB x) ∧ lo.length * 16 ≤ 140737488351232) ∧ (∀ l ∈ rs, (∀ x ∈ l, 0 ≤ x ∧ x ≤ 255) ∧ l.length ≤ 140737488351232) ∧ rs.length * 24 ≤ 140737488351232

set_option maxHeartbeats 400000 in
theorem open_queue {H : Type} {enc : TypeId × Value → H} {W : World} {v0 : Value} {d0 : DataW H} {p0 : List MemPlace} (hv : ∃ cs, v0 = .agg cs ∧ cs.size = Tryd.prog.cellsOf 125) (h0 : DataW.Trod enc Tryd.prog W 0 (fun _ => true) true 125 v0 d0 p0)
    (hs : ∀ m ∈ d0.weights Tryd.prog 125, m ≤ reachBytes) : ∃ n vl vr lo rs, v0 = .agg #[.int .i64 n, vl, vr] ∧ i64B n ∧ QuR W vl vr lo rs ∧ QuB lo rs := by
  obtain ⟨cs, rfl, hcs⟩ := hv
  have hc1 : Tryd.prog.cellsOf 125 = 3 := by kernel_rfl
  have hc2 : Tryd.prog.cellsOf 32 = 1 := by kernel_rfl
  have hc3 : Tryd.prog.cellsOf 123 = 1 := by kernel_rfl
  rw [hc1] at hcs
  obtain ⟨u, v, x, rfl⟩ : ∃ u v x, cs = #[u, v, x] := by
    obtain ⟨l⟩ := cs
    match l, hcs with
    | [u, v, x], _ => exact ⟨u, v, x, rfl⟩
  obtain ⟨fuel, hf⟩ := h0
  obtain ⟨xs, n, _, hx, _, hxl, hfld⟩ := DataW.trod_struct Tryd.underlying125 hf
  have h1 := hfld 0 _ rfl
  have h2 := hfld 1 _ rfl
  have h3 := hfld 2 _ rfl
  match xs, hxl with
  | [y0, y1, y2], _ =>
    have e1 : ((Value.agg #[u, v, x]).cells.toList.drop 0).take (Tryd.prog.cellsOf 3) = [u] := by rw [cells3M]; rfl
    have e2 : ((Value.agg #[u, v, x]).cells.toList.drop 1).take (Tryd.prog.cellsOf 32) = [v] := by rw [hc2]; rfl
    have e3 : ((Value.agg #[u, v, x]).cells.toList.drop 2).take (Tryd.prog.cellsOf 123) = [x] := by rw [hc3]; rfl
    simp only [List.getElem?_cons_zero, List.getElem?_cons_succ] at h1 h2 h3
    have h1' : DataW.trod enc Tryd.prog W 0 (fun _ => true) true n 3 [u] = some y0 := by rw [← e1]; exact h1
    have h2' : DataW.trod enc Tryd.prog W 0 (fun _ => true) true n 32 [v] = some y1 := by rw [← e2]; exact h2
    have h3' : DataW.trod enc Tryd.prog W 0 (fun _ => true) true n 123 [x] = some y2 := by rw [← e3]; exact h3
    obtain ⟨i, e0, _, hi⟩ := DataW.trod_int Tryd.underlying3 h1'
    simp only [List.cons.injEq, and_true] at e0
    subst e0
    simp only [Prod.mk.injEq] at hx
    obtain ⟨rfl, _⟩ := hx
    have hs2 : ∀ m ∈ y1.1.weights Tryd.prog 32, m ≤ reachBytes := fun m hm => hs m (by
      simp only [DataW.weights, Tryd.underlying125, List.map_cons, List.map_nil, DataW.weightsEach, List.mem_append]
      simp [hm])
    have hs3 : ∀ m ∈ y2.1.weights Tryd.prog 123, m ≤ reachBytes := fun m hm => hs m (by
      simp only [DataW.weights, Tryd.underlying125, List.map_cons, List.map_nil, DataW.weightsEach, List.mem_append]
      simp [hm])
    obtain ⟨lo, hR, hB, hL⟩ := open_mailsF h2' hs2
    obtain ⟨rs, kR, kB, kL⟩ := open_rowsF h3' hs3
    exact ⟨i, v, x, lo, rs, rfl, bounds_i64 hi, ⟨hR, kR⟩, ⟨hB, hL⟩, kB, kL⟩

theorem open_mail {H : Type} {enc : TypeId × Value → H} {W : World} {v0 : Value} {d0 : DataW H} {p0 : List MemPlace} (hv : ∃ cs, v0 = .agg cs ∧ cs.size = Tryd.prog.cellsOf 75) (h0 : DataW.Trod enc Tryd.prog W 0 (fun _ => true) true 75 v0 d0 p0) :
    ∃ e : Ml, v0 = .agg #[.int .i64 e.1, .int .i64 e.2] ∧ mlB e := by
  obtain ⟨cs, rfl, hcs⟩ := hv
  obtain ⟨fuel, hf⟩ := h0
  obtain ⟨e, he, hb⟩ := open_two Tryd.underlying75 (by kernel_rfl) rfl rfl rfl rfl hf
  refine ⟨e, ?_, hb⟩
  obtain ⟨l⟩ := cs
  have : l = encM e := he
  rw [this]
  rfl
end Go.Proofs.YthakibcfmbkpkaaDoor

namespace Go.Proofs.YthakibcfmbkpkaaDoor
set_option maxRecDepth 100000
open Go.ChangeShapes Go.WideShapes Go.ChangeAt Go.RowKit

theorem boxQ_set {w : World} {q i : Nat} {cs : Array Value} {u : Value} {t : TypeId} (h : w.heap[q]? = some (.cells cs t (0, 0))) : (w.setCell ⟨q, i, none⟩ u).heap[q]? = some (.cells (cs.setIfInBounds i u) t (0, 0)) := by
  simp only [World.setCell, Array.getElem?_modify, if_true]
  rw [h]
  rfl
theorem boxQ_cells {w : World} {q : Nat} {cs : Array Value} {t : TypeId} (h : w.heap[q]? = some (.cells cs t (0, 0))) (i : Nat) : w.cell? ⟨q, i, none⟩ = cs[i]? := cell_of_row _ _ _ _ _ _ h
/-- The block q holds a queue. -/
def QX (w : World) (q : Nat) (a b c : Value) : Prop := w.heap[q]? = some (.cells #[a, b, c] 125 (0, 0))
theorem QX.cells {w : World} {q : Nat} {a b c : Value} (h : QX w q a b c) : w.cell? ⟨q, 0, none⟩ = some a ∧ w.cell? ⟨q, 1, none⟩ = some b ∧ w.cell? ⟨q, 2, none⟩ = some c := ⟨boxQ_cells h 0, boxQ_cells h 1, boxQ_cells h 2⟩
theorem QX.frozen {w : World} {q : Nat} {a b c : Value} (h : QX w q a b c) (i : Nat) : w.frozen? ⟨q, i, none⟩ = false := box_frozen h i
theorem QX.lt {w : World} {q : Nat} {a b c : Value} (h : QX w q a b c) : q < w.heap.size := (Array.getElem?_eq_some_iff.1 h).1
theorem QX.kept {S : Nat → Prop} {w w' : World} {q : Nat} {a b c : Value} (h : QX w q a b c) (hk : Kept S w w') (hs : ¬ S q) : QX w' q a b c := (hk.block q h.lt hs).trans h
theorem QX.below {w w' : World} {q B : Nat} {a b c : Value} (h : QX w q a b c) (hb : Below B w w') (hq : q < B) : QX w' q a b c := (hb.block q hq).trans h
theorem QX.new (w : World) (a b c : Value) : QX (w.alloc (.cells #[a, b, c] 125)) w.heap.size a b c := heap_alloc_new w _
theorem QX.set0 {w : World} {q : Nat} {a b c : Value} (h : QX w q a b c) (u : Value) : QX (w.setCell ⟨q, 0, none⟩ u) q u b c := boxQ_set h
theorem QX.set1 {w : World} {q : Nat} {a b c : Value} (h : QX w q a b c) (u : Value) : QX (w.setCell ⟨q, 1, none⟩ u) q a u c := boxQ_set h
theorem QX.set2 {w : World} {q : Nat} {a b c : Value} (h : QX w q a b c) (u : Value) : QX (w.setCell ⟨q, 2, none⟩ u) q a b u := boxQ_set h
theorem QX.other {w : World} {q p i : Nat} {a b c u : Value} (h : QX w q a b c) (hne : q ≠ p) : QX (w.setCell ⟨p, i, none⟩ u) q a b c := h.kept (Kept.box w p i u) (fun e => hne e)
theorem QX.drew {w : World} {q : Nat} {a b c : Value} (h : QX w q a b c) : QX w.drew q a b c := h
/-- Rows stay where a queue's box is written. -/
theorem QX.own {w : World} {q i base n size : Nat} {e : TypeId} {a b c v u : Value} {xs : List Value} (h : QX w q a b c) (ho : w.ownsRow base e size v n xs) (hne : e ≠ 125) : (w.setCell ⟨q, i, none⟩ u).ownsRow base e size v n xs :=
  (Kept.box w q i u).own ho fun _ hg => own_block ho hg h hne
theorem OwnBs.boxQ {w : World} {q i base : Nat} {a b c v u : Value} {f : List (List Int)} (hq : QX w q a b c) (h : OwnBs w base v f) : OwnBs (w.setCell ⟨q, i, none⟩ u) base v f := h.box hq (by decide) (by decide)
/-- Whole stores. -/
def putQ (w : World) (q : Nat) (a b c : Value) : World := ((w.setCell ⟨q, 0, none⟩ a).setCell ⟨q, 1, none⟩ b).setCell ⟨q, 2, none⟩ c
theorem QX.put {w : World} {q : Nat} {a b c : Value} (h : QX w q a b c) (x y z : Value) : QX (putQ w q x y z) q x y z := ((h.set0 x).set1 y).set2 z
theorem QX.putOther {w : World} {q p : Nat} {a b c x y z : Value} (h : QX w q a b c) (hne : q ≠ p) : QX (putQ w p x y z) q a b c := ((h.other hne).other hne).other hne
theorem QX.ownPut {w : World} {q base n size : Nat} {e : TypeId} {a b c v x y z : Value} {xs : List Value} (h : QX w q a b c) (ho : w.ownsRow base e size v n xs) (hne : e ≠ 125) : (putQ w q x y z).ownsRow base e size v n xs :=
  ((h.set0 x).set1 y).own ((h.set0 x).own (h.own ho hne) hne) hne
theorem OwnBs.putQ {w : World} {q base : Nat} {a b c v x y z : Value} {f : List (List Int)} (hq : QX w q a b c) (h : OwnBs w base v f) : OwnBs (putQ w q x y z) base v f := (((h.boxQ hq).boxQ (hq.set0 x)).boxQ ((hq.set0 x).set1 y))
theorem below_putQ {B : Nat} {w0 w : World} {q : Nat} (h : Below B w0 w) (hq : B ≤ q) (x y z : Value) : Below B w0 (putQ w q x y z) := ((h.setCell (p := ⟨q, 0, none⟩) hq x).setCell (p := ⟨q, 1, none⟩) hq y).setCell (p := ⟨q, 2, none⟩) hq z
/-- A box made ahead of a call, behind it. -/
theorem newQ {W V : World} (h : Below (W.drew.alloc (.cells #[.int .i64 0, .slice none 0 0, .slice none 0 0] 125)).heap.size (W.drew.alloc (.cells #[.int .i64 0, .slice none 0 0, .slice none 0 0] 125)) V) : QX V W.heap.size (.int .i64 0) (.slice none 0 0) (.slice none 0 0) := (QX.new W.drew (.int .i64 0) (.slice none 0 0) (.slice none 0 0)).below h (by simp)
theorem QX.all {w : World} {q : Nat} {a b c : Value} (h : QX w q a b c) : w.cell? ⟨q, 0, none⟩ = some a ∧ w.cell? ⟨q, 1, none⟩ = some b ∧ w.cell? ⟨q, 2, none⟩ = some c ∧ (w.frozen? ⟨q, 0, none⟩ = false ∧ w.frozen? ⟨q, 1, none⟩ = false ∧ w.frozen? ⟨q, 2, none⟩ = false) := ⟨h.cells.1, h.cells.2.1, h.cells.2.2, h.frozen 0, h.frozen 1, h.frozen 2⟩
end Go.Proofs.YthakibcfmbkpkaaDoor

namespace Go.Proofs.YthakibcfmbkpkaaDoor
set_option maxRecDepth 100000
open Go.ChangeShapes Go.WideShapes Go.ChangeAt Go.RowKit

/-- P9.3, of the budget and what is loose. -/
def looB (n : Int) (lo : List Ml) : Bool := decide (1 ≤ n ∧ n ≤ 1000 ∧ (lo.length : Int) < n) && mayA lo
theorem looB_no {n : Int} {lo : List Ml} (h : ¬ (1 ≤ n ∧ n ≤ 1000 ∧ (lo.length : Int) < n)) : looB n lo = false := by unfold looB; rw [decide_eq_false h]; rfl
theorem looB_yes {n : Int} {lo : List Ml} (h : 1 ≤ n ∧ n ≤ 1000 ∧ (lo.length : Int) < n) : looB n lo = mayA lo := by unfold looB; rw [decide_eq_true h]; rfl
theorem okQ_loo (n : Int) (lo : List Ml) (m : Nat) : okQ n lo m = (looB n lo && decide (m ≤ 5000)) := by
  rw [Bool.eq_iff_iff, okQ_iff, Bool.and_eq_true]
  unfold looB
  rw [Bool.and_eq_true, decide_eq_true_iff, decide_eq_true_iff]
  exact ⟨fun ⟨⟨a, b, c, d⟩, e⟩ => ⟨⟨⟨a, b, c⟩, e⟩, d⟩, fun ⟨⟨⟨a, b, c⟩, e⟩, d⟩ => ⟨⟨a, b, c, d⟩, e⟩⟩

set_option maxHeartbeats 1000000 in
theorem looseMayBe_any (n : Int) (vl vr : Value) (lo : List Ml) (w : World) (h : MlR w vl lo) :
    Calls Tryd.prog 108 #[.agg #[.int .i64 n, vl, vr]] w fun e w' => e = .returned (.bool (looB n lo)) ∧ Below w.heap.size w w' := by
  have HR : Hid (MlR w vl lo) := h
  obtain ⟨a, cap, rfl, hc, hm, _, _⟩ := h
  unfold maxLen at hm
  have hb : ∀ o, Below w.heap.size w (w.alloc o) := fun o => below_alloc w o
  by_cases h0 : 1 ≤ n
  · by_cases h1 : n ≤ 1000
    · by_cases h2 : (lo.length : Int) < n
      · rw [looB_yes ⟨h0, h1, h2⟩]
        have HA : Hid (∀ X, MlR X (.slice a lo.length cap) lo → Calls Tryd.prog 111 #[.slice a lo.length cap] X fun e w' => e = .returned (.bool (!mayA lo)) ∧ Below X.heap.size X w') := fun X hX => anyBarred_any _ lo X hX
        have e0 : decide (1 ≤ n) = true := decide_eq_true h0
        have e1 : decide (n ≤ 1000) = true := decide_eq_true h1
        have e2 : decide ((lo.length : Int) < n) = true := decide_eq_true h2
        generalize mayA lo = r at HA ⊢
        clear h0 h1 h2
        go_enter Tryd.func108, Tryd.ntmps108
        go_wp2_with fail
        refine (HA.out _ (HR.out.below (hb _) (Nat.le_refl _))).mono ?_
        rintro e w1 ⟨rfl, hb1⟩
        have HB : Hid (Below w.heap.size w w1) := (hb _).trans (hb1.mono (by simp))
        clear hb1
        cases r
        · go_wp2_with fail
          go_ret
          exact ⟨rfl, HB.out⟩
        · go_wp2_with fail
          go_ret
          exact ⟨rfl, HB.out⟩
      · rw [looB_no (by omega)]
        have e2 : decide ((lo.length : Int) < n) = false := decide_eq_false h2
        go_enter Tryd.func108, Tryd.ntmps108
        go_wp2_with fail
        go_ret
        exact ⟨rfl, hb _⟩
    · rw [looB_no (by omega)]
      have e1 : decide (n ≤ 1000) = false := decide_eq_false h1
      go_enter Tryd.func108, Tryd.ntmps108
      go_wp2_with fail
      go_ret
      exact ⟨rfl, hb _⟩
  · rw [looB_no (by omega)]
    have e1 : decide (1 ≤ n) = false := decide_eq_false h0
    go_enter Tryd.func108, Tryd.ntmps108
    go_wp2_with fail
    go_ret
    exact ⟨rfl, hb _⟩

/-- What unpackAll answers. -/
def UnpP (w : World) (o : Option (List (List Ml))) (e : Ending) (w' : World) : Prop := ∃ v', e = .returned (.tuple #[v', .int .i64 (errQ o)]) ∧ OwnLm w' w.heap.size v' (o.getD []) ∧ Below w.heap.size w w'

set_option maxHeartbeats 2000000 in
set_option maxRecDepth 100000 in
theorem unpackAll_any (n : Int) (vl vr : Value) (lo : List Ml) (rs : List (List Int)) (w : World) (h : QuR w vl vr lo rs) (hB : QuB lo rs) :
    Calls Tryd.prog 102 #[.agg #[.int .i64 n, vl, vr]] w (UnpP w (quF n lo rs)) := by
  have HR : Hid (MlR w vl lo) := h.1
  have HS : Hid (BsR w vr rs) := h.2
  have HBY : Hid (∀ b ∈ rs, ∀ x ∈ b, 0 ≤ x ∧ x ≤ 255) := fun b hb => (hB.2.1 b hb).1
  obtain ⟨a, cap, rfl⟩ := h.1.shape
  obtain ⟨c, cap2, rfl, hc2, hm2, _⟩ := id h.2
  have hlr : rs.length * 24 ≤ 140737488351232 := hB.2.2
  unfold maxLen at hm2
  clear h hB
  have HLo : Hid (∀ X, MlR X (.slice a lo.length cap) lo → Calls Tryd.prog 108 #[.agg #[.int .i64 n, .slice a lo.length cap, .slice c rs.length cap2]] X fun e w' => e = .returned (.bool (looB n lo)) ∧ Below X.heap.size X w') := fun X hX => looseMayBe_any n _ _ lo X hX
  have HNo : Hid (quF n lo rs = none → ∀ w', Below w.heap.size w w' → UnpP w (quF n lo rs) (.returned (.tuple #[.slice none 0 0, .int .i64 9])) w') := fun e w' hw => by rw [e]; exact ⟨_, rfl, OwnLm.nil _ _, hw⟩
  have HYes : Hid (∀ f, quF n lo rs = some f → ∀ v w', OwnLm w' w.heap.size v f → Below w.heap.size w w' → UnpP w (quF n lo rs) (.returned (.tuple #[v, .int .i64 0])) w') := fun f e v w' ho hw => by rw [e]; exact ⟨_, rfl, ho, hw⟩
  cases hlo : looB n lo
  · have HX : Hid _ := HNo.out (quF_no (by rw [okQ_loo, hlo]; rfl))
    generalize UnpP w (quF n lo rs) = P at *
    rw [hlo] at HLo
    clear HNo HYes hlo
    go_enter Tryd.func102, Tryd.ntmps102
    go_wp2_with fail
    refine (HLo.out _ (HR.out.below (below_alloc _ _) (Nat.le_refl _))).mono ?_
    rintro e w1 ⟨rfl, hb1⟩
    have HE : Hid (P (.returned (.tuple #[.slice none 0 0, .int .i64 9])) w1) := HX.out _ ((below_alloc _ _).trans (hb1.mono (by simp)))
    clear hb1 HX
    go_wp2_with fail
    exact HE.out
  · by_cases hrl : rs.length ≤ 5000
    · have hok : okQ n lo rs.length = true := by rw [okQ_loo, hlo]; exact decide_eq_true hrl
      have HQ : Hid (quF n lo rs = unpF (5000 - lo.length) rs) := quF_yes hok
      have hle : lo.length < 1000 := by obtain ⟨⟨_, h2, h3, _⟩, _⟩ := okQ_iff.1 hok; omega
      have HNo2 : Hid (unpF (5000 - lo.length) rs = none → ∀ w', Below w.heap.size w w' → UnpP w (quF n lo rs) (.returned (.tuple #[.slice none 0 0, .int .i64 9])) w') := fun e => HNo.out (HQ.out.trans e)
      have HYes2 : Hid (∀ f, unpF (5000 - lo.length) rs = some f → ∀ v w', OwnLm w' w.heap.size v f → Below w.heap.size w w' → UnpP w (quF n lo rs) (.returned (.tuple #[v, .int .i64 0])) w') := fun f e => HYes.out f (HQ.out.trans e)
      generalize UnpP w (quF n lo rs) = P at *
      rw [hlo] at HLo
      clear HNo HYes hlo HQ hok
      have e5 : ¬ (5000 : Int) < (rs.length : Int) := by omega
      obtain ⟨R0, hR0, hR1⟩ : ∃ R0 : Nat, 5000 - lo.length = R0 ∧ IntKind.i64.wrap (5000 - (lo.length : Int)) = (R0 : Int) := ⟨_, rfl, by rw [IntKind.wrap_i64]; omega⟩
      rw [hR0] at HNo2 HYes2
      have hR2 : R0 ≤ 5000 := by omega
      clear hR0
      go_enter Tryd.func102, Tryd.ntmps102
      go_wp2_with fail
      refine (HLo.out _ (HR.out.below (below_alloc _ _) (Nat.le_refl _))).mono ?_
      rintro e w1 ⟨rfl, hb1⟩
      have hb1' : Below (w.heap.size + 1) (w.alloc (.cells #[.int .i64 n, .slice a lo.length cap, .slice c rs.length cap2] 125)) w1 := by simpa using hb1
      have B1 : Hid (Below w.heap.size w w1) := box_below hb1'
      obtain ⟨q0, q1, q2⟩ := ((QX.new w (.int .i64 n) (.slice a lo.length cap) (.slice c rs.length cap2)).below hb1' (Nat.lt_succ_self _)).cells
      clear hb1 hb1' HLo
      go_wp2_with fail
      go_loopw [4, 5, 26] (fun m x i wr => ∃ (k R : Nat) (f : List (List Ml)), k ≤ rs.length ∧ i = .int .i64 k ∧ m = .int .i64 R ∧ UpTo R0 rs k f ∧ R0 ≤ R + sumM f ∧ R + sumM f ≤ R0 ∧ OwnLm wr w.heap.size x f ∧ Below w.heap.size w wr) (fun _ _ i _ => rs.length - (intOf i).toNat)
      case atStart => exact ⟨0, R0, [], by omega, rfl, rfl, UpTo.zero _ _, by simp [sumM], by simp [sumM], OwnLm.nil _ _, B1.out⟩
      case round =>
        obtain ⟨k, R, f, hk, rfl, rfl, hto, hr1, hr2, hown, hbel⟩ := hrel
        have TO : Hid (UpTo R0 rs k f) := hto
        have OW : Hid (OwnLm wr w.heap.size u5 f) := hown
        have HB : Hid (Below w.heap.size w wr) := hbel
        have hsr := hbel.size
        have hfl : f.length ≤ k := Nat.le_of_eq hto.1
        obtain ⟨va, vc, rfl⟩ : ∃ a c, u5 = .slice a f.length c := by obtain ⟨a, c, e, _⟩ := hown.reads; exact ⟨a, c, e⟩
        clear hto hown hbel
        by_cases hlt : k < rs.length
        · obtain ⟨b, off, cap', e1, lt, _, _, hv⟩ := (HS.out.below HB.out (Nat.le_refl _)).at (by omega)
          injection e1 with e1 e2 e3
          subst e1 e3
          clear e2
          obtain ⟨l, hl⟩ := getX hlt
          obtain ⟨u, hu, hpr⟩ := hv k l hl
          have HK : Hid (rs[k]? = some l) := hl
          have HU : Hid (∀ X, Reads .u8 X u l → Calls Tryd.prog 109 #[u] X (RefP X (errR (runF l)) ((runF l).getD []))) := fun X hX => unpack_any u l X hX (HBY.out l (List.mem_of_getElem? hl))
          have HP : Hid (Reads .u8 wr u l) := hpr
          obtain ⟨ua, uc, rfl, _⟩ := id hpr
          clear hl hv hpr
          cases hrf : runF l with
          | none =>
            have HE : Hid (∀ w', Below w.heap.size w w' → P (.returned (.tuple #[.slice none 0 0, .int .i64 9])) w') := HNo2.out (TO.out.bad HK.out hrf)
            rw [hrf] at HU
            clear hrf
            go_wp2_with fail
            refine (HU.out _ HP.out).mono ?_
            rintro e w2 ⟨v2, rfl, _, hb2⟩
            have HX : Hid (P (.returned (.tuple #[.slice none 0 0, .int .i64 9])) w2) := HE.out _ (HB.out.trans (hb2.mono hsr))
            clear hb2
            unfold errR
            go_wp2_with fail
            exact HX.out
          | some x =>
            rw [hrf] at HU
            by_cases hx : x.length ≤ R
            · have TO2 : Hid (UpTo R0 rs (k + 1) (f ++ [x])) := TO.out.step HK.out hrf (by omega)
              have HS2 : Hid (sumM (f ++ [x]) = sumM f + x.length) := sumM_snoc f x
              have hx2 : ¬ (R : Int) < (x.length : Int) := by omega
              have hsub : IntKind.i64.wrap ((R : Int) - (x.length : Int)) = ((R - x.length : Nat) : Int) := by rw [IntKind.wrap_i64]; omega
              obtain ⟨R2, hR3⟩ : ∃ R2, R - x.length = R2 := ⟨_, rfl⟩
              rw [hR3] at hsub
              have hR4 : R2 + x.length ≤ R := by omega
              have hR5 : R ≤ R2 + x.length := by omega
              clear hrf hR3
              go_wp2_with fail
              refine (HU.out _ HP.out).mono ?_
              rintro e w2 ⟨v2, rfl, ho2, hb2⟩
              have O2 : Hid (w2.ownsRow w.heap.size 75 2 v2 x.length (x.flatMap encM)) := own_lower ho2 hsr
              have OL : Hid (OwnLm w2 w.heap.size (.slice va f.length vc) f) := OW.out.kept (Kept.of (S := fun _ => False) hb2) (fun _ _ h => h)
              have B2 : Hid (Below w.heap.size w w2) := HB.out.trans (hb2.mono hsr)
              have hs2 := B2.out.size
              obtain ⟨xa, xc, rfl⟩ := (MlR.ownd O2.out).shape
              clear ho2 hb2
              unfold errR
              go_wp2_with (at_builtin; refine wpList_append_lm rfl _ _ rfl w.heap.size _ f rfl (OL.out.kept (Kept.of (S := fun _ => False) (below_alloc w2 _)) (fun _ _ h => h)) w2.heap.size (.slice xa x.length xc) x rfl (0, 0) (heap_alloc_new _ _) (O2.out.alloc _) ?d1 ?d2 ?_)
              case d1 => omega
              case d2 => simp; omega
              intro g c3 w3 hown3 hg3 _
              have O3 : Hid (OwnLm w3 w.heap.size (.slice (some ⟨g, 0, none⟩) (f.length + 1) c3) (f ++ [x])) := hown3
              have B3 : Hid (Below w.heap.size w w3) := (B2.out.alloc hs2 _).grown hg3 (by simp; omega) (fun j hj => by
                obtain ⟨vs, hrow⟩ := OL.out.row
                exact (own_geM hrow hj).1)
              clear hown3 hg3
              go_wp2_with fail
              go_roundw
              case rel => exact ⟨k + 1, R2, f ++ [x], by omega, by go_num, rfl, TO2.out, by rw [HS2.out]; omega, by rw [HS2.out]; omega, O3.out, B3.out⟩
              case measure => simp [intOf]; omega
            · have HE : Hid (∀ w', Below w.heap.size w w' → P (.returned (.tuple #[.slice none 0 0, .int .i64 9])) w') := HNo2.out (TO.out.much HK.out hrf (by omega))
              have hx2 : (R : Int) < (x.length : Int) := by omega
              clear hrf
              go_wp2_with fail
              refine (HU.out _ HP.out).mono ?_
              rintro e w2 ⟨v2, rfl, ho2, hb2⟩
              have HX : Hid (P (.returned (.tuple #[.slice none 0 0, .int .i64 9])) w2) := HE.out _ (HB.out.trans (hb2.mono hsr))
              obtain ⟨xa, xc, rfl⟩ := (MlR.ownd (show w2.ownsRow wr.heap.size 75 2 v2 x.length (x.flatMap encM) from ho2)).shape
              clear hb2 ho2
              unfold errR
              go_wp2_with fail
              exact HX.out
        · have HX : Hid (P (.returned (.tuple #[.slice va f.length vc, .int .i64 0])) wr) := HYes2.out f (TO.out.done (by omega)) _ _ OW.out HB.out
          clear TO OW
          go_wp2_with fail
          exact HX.out
    · have HX : Hid _ := HNo.out (quF_no (by rw [okQ_loo, hlo]; exact decide_eq_false hrl))
      generalize UnpP w (quF n lo rs) = P at *
      rw [hlo] at HLo
      clear HNo HYes hlo
      have e5 : (5000 : Int) < (rs.length : Int) := by omega
      go_enter Tryd.func102, Tryd.ntmps102
      go_wp2_with fail
      refine (HLo.out _ (HR.out.below (below_alloc _ _) (Nat.le_refl _))).mono ?_
      rintro e w1 ⟨rfl, hb1⟩
      have HE : Hid (P (.returned (.tuple #[.slice none 0 0, .int .i64 9])) w1) := HX.out _ ((below_alloc _ _).trans (hb1.mono (by simp)))
      have hb1' : Below (w.heap.size + 1) (w.alloc (.cells #[.int .i64 n, .slice a lo.length cap, .slice c rs.length cap2] 125)) w1 := by simpa using hb1
      obtain ⟨q0, q1, q2⟩ := ((QX.new w (.int .i64 n) (.slice a lo.length cap) (.slice c rs.length cap2)).below hb1' (Nat.lt_succ_self _)).cells
      clear hb1 hb1' HX
      go_wp2_with fail
      exact HE.out
set_option maxHeartbeats 1000000 in
set_option maxRecDepth 100000 in
theorem countQ_any (v : Value) (f : List (List Ml)) (w : World) (h : LmR w v f) (hs : sumM f ≤ 4611686018427387904) :
    Calls Tryd.prog 103 #[v] w fun e w' => e = .returned (.int .i64 (sumM f : Nat)) ∧ w' = w := by
  have HR : Hid (LmR w v f) := h
  obtain ⟨a, cap, rfl, hc, hm, _⟩ := h
  unfold maxLen at hm
  go_enter Tryd.func103, Tryd.ntmps103
  go_wp2_with fail
  go_loopw [3, 8] (fun s i wr => ∃ k : Nat, k ≤ f.length ∧ i = .int .i64 k ∧ s = .int .i64 (sumM (f.take k) : Nat) ∧ wr = w) (fun _ i _ => f.length - (intOf i).toNat)
  case atStart => exact ⟨0, by omega, rfl, rfl, rfl⟩
  case round =>
    obtain ⟨k, hk, rfl, rfl, rfl⟩ := hrel
    by_cases hlt : k < f.length
    · obtain ⟨b, off, cap', e1, lt, _, _, hv⟩ := HR.out.at (by omega)
      injection e1 with e1 _ e3
      subst e1 e3
      obtain ⟨l, hl⟩ := getX hlt
      obtain ⟨u, hu, hpr⟩ := hv k l hl
      obtain ⟨ua, uc, rfl⟩ := hpr.shape
      have HT : Hid (sumM (f.take (k + 1)) = sumM (f.take k) + l.length) := sumM_take hl
      have hs1 := sumM_le f (k + 1)
      have hs2 := HT.out
      have hs3 : sumM (f.take k) + l.length ≤ 4611686018427387904 := by omega
      clear hs1 hs2 hl hv hpr
      generalize sumM (f.take k) = s at *
      go_wp2_with fail
      go_roundw
      case rel => exact ⟨k + 1, by omega, by go_num, by rw [HT.out]; go_num, trivial⟩
      case measure => simp [intOf]; omega
    · have ek : f.take k = f := List.take_of_length_le (by omega)
      have HT : Hid (sumM (f.take k) = sumM f) := by show _ = _; rw [ek]
      clear ek
      generalize sumM (f.take k) = s at *
      go_wp2_with fail
      go_ret
      exact ⟨by rw [HT.out]; rfl, rfl⟩
end Go.Proofs.YthakibcfmbkpkaaDoor

namespace Go.Proofs.YthakibcfmbkpkaaDoor
set_option maxRecDepth 100000
open Go.ChangeShapes Go.WideShapes Go.ChangeAt Go.RowKit

/-- What Count answers. -/
def CntP (w : World) (lo : List Ml) (o : Option (List (List Ml))) (e : Ending) (w' : World) : Prop := e = .returned (.tuple #[.int .i64 (countF lo o : Nat), .int .i64 (errQ o)]) ∧ Below w.heap.size w w'

set_option maxHeartbeats 1000000 in
set_option maxRecDepth 100000 in
theorem queueCount_any (n : Int) (vl vr : Value) (lo : List Ml) (rs : List (List Int)) (w : World) (h : QuR w vl vr lo rs) (hB : QuB lo rs) :
    Calls Tryd.prog 92 #[.agg #[.int .i64 n, vl, vr]] w (CntP w lo (quF n lo rs)) := by
  have HR : Hid (QuR w vl vr lo rs) := h
  have HU : Hid (∀ X, QuR X vl vr lo rs → Calls Tryd.prog 102 #[.agg #[.int .i64 n, vl, vr]] X (UnpP X (quF n lo rs))) := fun X hX => unpackAll_any n vl vr lo rs X hX hB
  have HQ : Hid (∀ f, quF n lo rs = some f → lo.length + sumM f ≤ 5000) := fun f hf => (quF_inv hf).2.2.2.2.2.2.1
  obtain ⟨a, cap, rfl⟩ := h.1.shape
  obtain ⟨c, cap2, rfl, _⟩ := id h.2
  clear h hB
  generalize quF n lo rs = o at *
  have hb : ∀ o, Below w.heap.size w (w.alloc o) := fun o => below_alloc w o
  cases o with
  | none =>
    have HE : Hid (∀ w', Below w.heap.size w w' → CntP w lo none (.returned (.tuple #[.int .i64 0, .int .i64 9])) w') := fun w' hw => ⟨rfl, hw⟩
    generalize CntP w lo none = P at *
    go_enter Tryd.func92, Tryd.ntmps92
    go_wp2_with fail
    refine (HU.out _ (HR.out.below (hb _) (Nat.le_refl _))).mono ?_
    rintro e w1 ⟨v1, rfl, ho, hb1⟩
    have HX : Hid (P (.returned (.tuple #[.int .i64 0, .int .i64 9])) w1) := HE.out w1 ((hb _).trans (hb1.mono (by simp)))
    clear hb1 ho
    unfold errQ
    go_wp2_with fail
    exact HX.out
  | some f =>
    have hs := HQ.out f rfl
    have HE : Hid (∀ w', Below w.heap.size w w' → CntP w lo (some f) (.returned (.tuple #[.int .i64 (lo.length + sumM f : Nat), .int .i64 0])) w') := fun w' hw => ⟨rfl, hw⟩
    generalize CntP w lo (some f) = P at *
    go_enter Tryd.func92, Tryd.ntmps92
    go_wp2_with fail
    refine (HU.out _ (HR.out.below (hb _) (Nat.le_refl _))).mono ?_
    rintro e w1 ⟨v1, rfl, ho, hb1⟩
    have hb1' : Below (w.heap.size + 1) (w.alloc (.cells #[.int .i64 n, .slice a lo.length cap, .slice c rs.length cap2] 125)) w1 := by simpa using hb1
    obtain ⟨q0, q1, q2⟩ := ((QX.new w (.int .i64 n) (.slice a lo.length cap) (.slice c rs.length cap2)).below hb1' (Nat.lt_succ_self _)).cells
    have HX : Hid (∀ w', Below w1.heap.size w1 w' → P (.returned (.tuple #[.int .i64 (lo.length + sumM f : Nat), .int .i64 0])) w') := fun w' hw => HE.out w' ((box_below hb1').trans (hw.mono (box_below hb1').size))
    have HL : Hid (LmR w1 v1 f) := ho.reads
    obtain ⟨fa, fc, rfl⟩ : ∃ a c, v1 = .slice a f.length c := by obtain ⟨a, c, e, _⟩ := ho.reads; exact ⟨a, c, e⟩
    have hadd : IntKind.i64.wrap ((lo.length : Int) + (sumM f : Nat)) = ((lo.length + sumM f : Nat) : Int) := by rw [IntKind.wrap_i64]; omega
    have HC : Hid (∀ X, LmR X (.slice fa f.length fc) f → Calls Tryd.prog 103 #[.slice fa f.length fc] X fun e w' => e = .returned (.int .i64 (sumM f : Nat)) ∧ w' = X) := fun X hX => countQ_any _ f X hX (by omega)
    clear hb1 hb1' ho HU HR
    generalize lo.length + sumM f = tot at *
    generalize sumM f = sf at *
    unfold errQ
    go_wp2_with fail
    go_quiet ((go_at_call 103; exact Calls.quiet_of_same (HC.out _ HL.out)))
    have HY : Hid (∀ m, P (.returned (.tuple #[.int .i64 (tot : Nat), .int .i64 0])) (w1.drewN m)) := fun m => HX.out _ (below_drewN (Below.refl _ _) m)
    go_wp2_with fail
    exact HY.out _
end Go.Proofs.YthakibcfmbkpkaaDoor

namespace Go.Proofs.YthakibcfmbkpkaaDoor
set_option maxRecDepth 100000
open Go.ChangeShapes Go.WideShapes Go.ChangeAt Go.RowKit

theorem mlR_new {w : World} {g : Nat} {m : Ml} {t : TypeId} (h : w.heap[g]? = some (.cells #[.int .i64 m.1, .int .i64 m.2] t)) : MlR w (.slice (some ⟨g, 0, none⟩) 1 1) [m] := by
  refine ⟨some ⟨g, 0, none⟩, 1, rfl, by simp, by simp [maxLen], fun h => (by cases h), fun _ => ⟨g, 0, rfl, ?_, ?_⟩⟩
  · exact (Array.getElem?_eq_some_iff.1 h).1
  · intro i x hx j u hu
    cases i with
    | succ i => simp at hx
    | zero =>
      simp only [List.getElem?_cons_zero, Option.some.injEq] at hx
      subst hx
      cases j with
      | zero =>
        have e : u = .int .i64 m.1 := by simpa [encM] using hu.symm
        rw [e, cell_of_row _ _ _ _ _ _ h]; rfl
      | succ j =>
        cases j with
        | zero =>
          have e : u = .int .i64 m.2 := by simpa [encM] using hu.symm
          rw [e, cell_of_row _ _ _ _ _ _ h]; rfl
        | succ j => simp [encM] at hu
set_option maxHeartbeats 1000000 in
theorem valBarred_any (m : Ml) (w : World) : Calls Tryd.prog 75 #[.agg #[.int .i64 m.1, .int .i64 m.2]] w fun e w' => e = .returned (.bool (!valS m)) ∧ Below w.heap.size w w' := by
  obtain ⟨a, b⟩ := m
  simp only
  have hb : ∀ o, Below w.heap.size w (w.alloc o) := fun o => below_alloc w o
  have HY : Hid (¬ (-1 ≤ a ∧ a ≤ 4398046511104 ∧ -1 ≤ b ∧ b < 200) → (!valS (a, b)) = true) := fun h => by rw [valS_no.2 h]; rfl
  have HN : Hid ((-1 ≤ a ∧ a ≤ 4398046511104 ∧ -1 ≤ b ∧ b < 200) → (!valS (a, b)) = false) := fun h => by rw [valS_iff.2 h]; rfl
  generalize (!valS (a, b)) = r at *
  by_cases h0 : a < -1
  · have e := HY.out (by omega)
    subst e
    clear HY HN
    go_enter Tryd.func75, Tryd.ntmps75
    go_wp2_with fail
    go_ret
    exact ⟨rfl, hb _⟩
  · by_cases h1 : 4398046511104 < a
    · have e := HY.out (by omega)
      subst e
      clear HY HN
      go_enter Tryd.func75, Tryd.ntmps75
      go_wp2_with fail
      go_ret
      exact ⟨rfl, hb _⟩
    · by_cases h2 : b < -1
      · have e := HY.out (by omega)
        subst e
        clear HY HN
        go_enter Tryd.func75, Tryd.ntmps75
        go_wp2_with fail
        go_ret
        exact ⟨rfl, hb _⟩
      · by_cases h3 : 200 ≤ b
        · have e := HY.out (by omega)
          subst e
          clear HY HN
          go_enter Tryd.func75, Tryd.ntmps75
          go_wp2_with fail
          go_ret
          exact ⟨rfl, hb _⟩
        · have e := HN.out (by omega)
          subst e
          clear HY HN
          go_enter Tryd.func75, Tryd.ntmps75
          go_wp2_with fail
          go_ret
          exact ⟨rfl, hb _⟩

set_option maxHeartbeats 1000000 in
theorem indexVal_any (v : Value) (l : List Ml) (w : World) (h : MlR w v l) :
    Calls Tryd.prog 89 #[v, .func (.func 75) #[] #[]] w fun e w' => (∃ r : Int, e = .returned (.int .i64 r) ∧ decide (0 ≤ r) = !valA l) ∧ Below w.heap.size w w' := by
  have HR : Hid (MlR w v l) := h
  obtain ⟨a, cap, rfl, hc, hm, _, _⟩ := h
  unfold maxLen at hm
  go_enter Tryd.func89, Tryd.ntmps89
  go_wp2_with fail
  go_loopw [8] (fun i wr => ∃ k : Nat, k ≤ l.length ∧ i = .int .i64 k ∧ valA (l.take k) = true ∧ Below w.heap.size w wr) (fun i _ => l.length - (intOf i).toNat)
  case atStart => exact ⟨0, by omega, rfl, rfl, Below.refl _ _⟩
  case round =>
    obtain ⟨k, hk, rfl, hno, hbel⟩ := hrel
    have HNO : Hid (valA (l.take k) = true) := hno
    have HB : Hid (Below w.heap.size w wr) := hbel
    have hsr := hbel.size
    clear hno hbel
    by_cases hlt : k < l.length
    · obtain ⟨b, off, cap', e1, _, _, lt, hv⟩ := MlR.at (HR.out.below HB.out (Nat.le_refl _)) (by omega)
      injection e1 with e1 e2 e3
      subst e1 e3
      clear e2
      obtain ⟨x, hx⟩ := getX hlt
      obtain ⟨c1, c2⟩ := hv k x hx
      have HX : Hid (l[k]? = some x) := hx
      clear hv hx
      cases ho : valS x
      · have HA : Hid (valA l = false) := valA_hit HX.out ho
        go_wp2_with fail
        refine (valBarred_any x _).mono ?_
        rw [ho]
        rintro e w2 ⟨rfl, hb2⟩
        go_wp2_with fail
        go_ret
        exact ⟨⟨k, rfl, by rw [HA.out]; simp⟩, HB.out.trans (hb2.mono hsr)⟩
      · have HN2 : Hid (valA (l.take (k + 1)) = true) := valA_cut HX.out HNO.out ho
        go_wp2_with fail
        refine (valBarred_any x _).mono ?_
        rw [ho]
        rintro e w2 ⟨rfl, hb2⟩
        go_wp2_with fail
        go_roundw
        case rel => exact ⟨k + 1, by omega, by go_num, HN2.out, HB.out.trans (hb2.mono hsr)⟩
        case measure => simp [intOf]; omega
    · have ek : l.take k = l := List.take_of_length_le (by omega)
      have HA : Hid (valA l = true) := by have := HNO.out; rwa [ek] at this
      clear ek
      go_wp2_with fail
      go_ret
      exact ⟨⟨-1, rfl, by rw [HA.out]; rfl⟩, HB.out⟩

set_option maxHeartbeats 400000 in
theorem containsVal_any (v : Value) (l : List Ml) (w : World) (h : MlR w v l) :
    Calls Tryd.prog 74 #[v, .func (.func 75) #[] #[]] w fun e w' => e = .returned (.bool (!valA l)) ∧ Below w.heap.size w w' := by
  have hcon := indexVal_any v l w h
  obtain ⟨a, cap, rfl⟩ := h.shape
  generalize (!valA l) = r at hcon ⊢
  clear h
  go_enter Tryd.func74, Tryd.ntmps74
  go_wp2_with fail
  refine hcon.mono ?_
  rintro e w2 ⟨⟨j, rfl, hj⟩, hb2⟩
  have HJ : Hid (decide (0 ≤ j) = r) := hj
  clear hj
  go_wp2_with fail
  go_ret
  exact ⟨ret_bool HJ.out, hb2⟩

set_option maxHeartbeats 1000000 in
set_option maxRecDepth 100000 in
/-- A queue with this one piece may not be for one thing alone. -/
theorem mailBarred_any (m : Ml) (w : World) (hB : mlB m) : Calls Tryd.prog 78 #[.agg #[.int .i64 m.1, .int .i64 m.2]] w fun e w' => e = .returned (.bool (!mayM m)) ∧ Below w.heap.size w w' := by
  have CQ : Hid (∀ X v, MlR X v [m] → Calls Tryd.prog 92 #[.agg #[.int .i64 1000, v, .slice none 0 0]] X fun e w' => ∃ c : Int, e = .returned (.tuple #[.int .i64 c, .int .i64 (if mayM m then 0 else 9)]) ∧ Below X.heap.size X w') := fun X v hX => by
    have h1 := queueCount_any 1000 v (.slice none 0 0) [m] [] X ⟨hX, BsR.nil X⟩ ⟨⟨fun x hx => by simp only [List.mem_cons, List.not_mem_nil, or_false] at hx; subst hx; exact hB, by simp⟩, fun l hl => by simp at hl, by simp⟩
    have e1 : mayA [m] = mayM m := by unfold mayA; simp
    have hE : errQ (quF 1000 [m] []) = if mayM m then 0 else 9 := by
      cases hm : mayM m with
      | false =>
        have h0 : okQ 1000 [m] ([] : List (List Int)).length = false := by
          unfold okQ
          rw [e1, hm]; simp
        rw [quF_no h0]; rfl
      | true =>
        have h0 : okQ 1000 [m] ([] : List (List Int)).length = true := okQ_iff.2 ⟨⟨by omega, by omega, by simp, by simp⟩, e1.trans hm⟩
        rw [quF_yes h0]; rfl
    exact h1.mono fun e w' h => ⟨_, by rw [← hE]; exact h.1, h.2⟩
  have HE : Hid (((if mayM m then (0 : Int) else 9) != 0) = !mayM m) := by show _ = _; cases mayM m <;> rfl
  obtain ⟨a, b⟩ := m
  simp only
  generalize (!mayM (a, b)) = r at *
  obtain ⟨z, hz⟩ : ∃ z : Int, (if mayM (a, b) then (0 : Int) else 9) = z := ⟨_, rfl⟩
  rw [hz] at CQ HE
  clear hz hB
  have X0 : BX 75 (w.alloc (.cells #[.int .i64 a, .int .i64 b] 75)) w.heap.size #[.int .i64 a, .int .i64 b] := BX.new _ _ _
  have R1 : Hid (MlR ((w.alloc (.cells #[.int .i64 a, .int .i64 b] 75)).alloc (.cells #[.int .i64 a, .int .i64 b] 75)) (.slice (some ⟨w.heap.size + 1, 0, none⟩) 1 1) [(a, b)]) := by
    have h1 : ((w.alloc (.cells #[.int .i64 a, .int .i64 b] 75)).alloc (.cells #[.int .i64 a, .int .i64 b] 75)).heap[w.heap.size + 1]? = some (.cells #[.int .i64 a, .int .i64 b] 75) := by
      have := heap_alloc_new (w.alloc (.cells #[.int .i64 a, .int .i64 b] 75)) (.cells #[.int .i64 a, .int .i64 b] 75)
      simpa using this
    exact mlR_new h1
  have B1 : Hid (Below w.heap.size w ((w.alloc (.cells #[.int .i64 a, .int .i64 b] 75)).alloc (.cells #[.int .i64 a, .int .i64 b] 75))) := (below_alloc w _).alloc (by simp) _
  obtain ⟨m0, m1, _⟩ := X0.all2
  clear X0
  go_enter Tryd.func78, Tryd.ntmps78
  go_wp2_with fail
  refine (CQ.out _ _ R1.out).mono ?_
  rintro e w2 ⟨c, rfl, hb2⟩
  have B2 : Hid (Below w.heap.size w w2) := B1.out.trans (hb2.mono B1.out.size)
  clear hb2 m0 m1 B1 R1 CQ
  go_wp2_with fail
  go_ret
  exact ⟨ret_bool HE.out, B2.out⟩
set_option maxHeartbeats 1000000 in
theorem indexMal_any (v : Value) (l : List Ml) (w : World) (h : MlR w v l) (hB : ∀ x ∈ l, mlB x) :
    Calls Tryd.prog 91 #[v, .func (.func 78) #[] #[]] w fun e w' => (∃ r : Int, e = .returned (.int .i64 r) ∧ decide (0 ≤ r) = !mayA l) ∧ Below w.heap.size w w' := by
  have HR : Hid (MlR w v l) := h
  have HB0 : Hid (∀ x ∈ l, mlB x) := hB
  clear hB
  obtain ⟨a, cap, rfl, hc, hm, _, _⟩ := h
  unfold maxLen at hm
  go_enter Tryd.func91, Tryd.ntmps91
  go_wp2_with fail
  go_loopw [8] (fun i wr => ∃ k : Nat, k ≤ l.length ∧ i = .int .i64 k ∧ mayA (l.take k) = true ∧ Below w.heap.size w wr) (fun i _ => l.length - (intOf i).toNat)
  case atStart => exact ⟨0, by omega, rfl, rfl, Below.refl _ _⟩
  case round =>
    obtain ⟨k, hk, rfl, hno, hbel⟩ := hrel
    have HNO : Hid (mayA (l.take k) = true) := hno
    have HB : Hid (Below w.heap.size w wr) := hbel
    have hsr := hbel.size
    clear hno hbel
    by_cases hlt : k < l.length
    · obtain ⟨b, off, cap', e1, _, _, lt, hv⟩ := MlR.at (HR.out.below HB.out (Nat.le_refl _)) (by omega)
      injection e1 with e1 e2 e3
      subst e1 e3
      clear e2
      obtain ⟨x, hx⟩ := getX hlt
      obtain ⟨c1, c2⟩ := hv k x hx
      have HX : Hid (l[k]? = some x) := hx
      clear hv hx
      cases ho : mayM x
      · have HA : Hid (mayA l = false) := mayA_hit HX.out ho
        go_wp2_with fail
        refine (mailBarred_any x _ (HB0.out x (List.mem_of_getElem? HX.out))).mono ?_
        rw [ho]
        rintro e w2 ⟨rfl, hb2⟩
        go_wp2_with fail
        go_ret
        exact ⟨⟨k, rfl, by rw [HA.out]; simp⟩, HB.out.trans (hb2.mono hsr)⟩
      · have HN2 : Hid (mayA (l.take (k + 1)) = true) := mayA_cut HX.out HNO.out ho
        go_wp2_with fail
        refine (mailBarred_any x _ (HB0.out x (List.mem_of_getElem? HX.out))).mono ?_
        rw [ho]
        rintro e w2 ⟨rfl, hb2⟩
        go_wp2_with fail
        go_roundw
        case rel => exact ⟨k + 1, by omega, by go_num, HN2.out, HB.out.trans (hb2.mono hsr)⟩
        case measure => simp [intOf]; omega
    · have ek : l.take k = l := List.take_of_length_le (by omega)
      have HA : Hid (mayA l = true) := by have := HNO.out; rwa [ek] at this
      clear ek
      go_wp2_with fail
      go_ret
      exact ⟨⟨-1, rfl, by rw [HA.out]; rfl⟩, HB.out⟩

set_option maxHeartbeats 400000 in
theorem containsMal_any (v : Value) (l : List Ml) (w : World) (h : MlR w v l) (hB : ∀ x ∈ l, mlB x) :
    Calls Tryd.prog 77 #[v, .func (.func 78) #[] #[]] w fun e w' => e = .returned (.bool (!mayA l)) ∧ Below w.heap.size w w' := by
  have hcon := indexMal_any v l w h hB
  obtain ⟨a, cap, rfl⟩ := h.shape
  generalize (!mayA l) = r at hcon ⊢
  clear h hB
  go_enter Tryd.func77, Tryd.ntmps77
  go_wp2_with fail
  refine hcon.mono ?_
  rintro e w2 ⟨⟨j, rfl, hj⟩, hb2⟩
  have HJ : Hid (decide (0 ≤ j) = r) := hj
  clear hj
  go_wp2_with fail
  go_ret
  exact ⟨ret_bool HJ.out, hb2⟩

end Go.Proofs.YthakibcfmbkpkaaDoor

namespace Go.Proofs.YthakibcfmbkpkaaDoor
set_option maxRecDepth 100000
open Go.ChangeShapes Go.WideShapes Go.ChangeAt Go.RowKit

theorem BX.all5 {t : TypeId} {w : World} {q : Nat} {a b c d e : Value} (h : BX t w q #[a, b, c, d, e]) : w.cell? ⟨q, 0, none⟩ = some a ∧ w.cell? ⟨q, 1, none⟩ = some b ∧ w.cell? ⟨q, 2, none⟩ = some c ∧ w.cell? ⟨q, 3, none⟩ = some d ∧ w.cell? ⟨q, 4, none⟩ = some e := ⟨h.cell 0, h.cell 1, h.cell 2, h.cell 3, h.cell 4⟩
theorem svMay_head {s : SvS} (h : ¬ (0 ≤ s.step ∧ s.step ≤ 100000 ∧ (s.phase = 0 ∨ s.phase = 1))) : svMay s = false := by rw [Bool.eq_false_iff]; intro g; exact h (svMay_iff.1 g).1
theorem svMay_vals {s : SvS} (h : ¬ (s.vals.length ≤ 200 ∧ valA s.vals = true)) : svMay s = false := by rw [Bool.eq_false_iff]; intro g; exact h ⟨(svMay_iff.1 g).2.1, (svMay_iff.1 g).2.2.1⟩
theorem svMay_mail {s : SvS} (h : errL s.mail ≠ 0) : svMay s = false := by
  rw [Bool.eq_false_iff]
  intro g
  obtain ⟨_, _, _, h1, h2, _⟩ := svMay_iff.1 g
  apply h
  unfold errL
  rw [if_neg (by omega), if_pos h2]
theorem errL_zero {l : List Ml} (h : errL l = 0) : l.length ≤ 5000 ∧ srtMb l = true := by
  unfold errL at h
  by_cases h1 : l.length > 5000
  · rw [if_pos h1] at h; cases h
  · rw [if_neg h1] at h
    cases h2 : srtMb l with
    | false => rw [h2] at h; cases h
    | true => exact ⟨by omega, rfl⟩

set_option maxHeartbeats 4000000 in
set_option maxRecDepth 100000 in
theorem sMayBe_any (s : SvS) (vv vm : Value) (w : World) (hv : MlR w vv s.vals) (hm : MlR w vm s.mail) (hB : ∀ x ∈ s.mail, mlB x) :
    Calls Tryd.prog 61 #[.agg #[.int .i64 s.step, .int .i64 s.phase, .bool s.fresh, vv, vm]] w fun e w' => e = .returned (.bool (svMay s)) ∧ Below w.heap.size w w' := by
  have HV : Hid (MlR w vv s.vals) := hv
  have HM : Hid (MlR w vm s.mail) := hm
  have HB : Hid (∀ x ∈ s.mail, mlB x) := hB
  obtain ⟨va, vc, rfl, hvc, hvm, _, _⟩ := hv
  obtain ⟨ma, mc, rfl, hmc, hmm, _, _⟩ := hm
  unfold maxLen at hvm hmm
  have H1 : Hid (¬ (0 ≤ s.step ∧ s.step ≤ 100000 ∧ (s.phase = 0 ∨ s.phase = 1)) → svMay s = false) := svMay_head
  have H2 : Hid (¬ (s.vals.length ≤ 200 ∧ valA s.vals = true) → svMay s = false) := svMay_vals
  have H3 : Hid (errL s.mail ≠ 0 → svMay s = false) := svMay_mail
  have H4 : Hid ((0 ≤ s.step ∧ s.step ≤ 100000 ∧ (s.phase = 0 ∨ s.phase = 1)) → (s.vals.length ≤ 200 ∧ valA s.vals = true) → errL s.mail = 0 → svMay s = mayA s.mail) := fun h1 h2 h3 => by
    obtain ⟨h4, h5⟩ := errL_zero h3
    rw [Bool.eq_iff_iff, svMay_iff]
    exact ⟨fun h => h.2.2.2.2.2, fun h => ⟨h1, h2.1, h2.2, h4, h5, h⟩⟩
  have CV : Hid (∀ X, MlR X (.slice va s.vals.length vc) s.vals → Calls Tryd.prog 74 #[.slice va s.vals.length vc, .func (.func 75) #[] #[]] X fun e w' => e = .returned (.bool (!valA s.vals)) ∧ Below X.heap.size X w') := fun X hX => containsVal_any _ s.vals X hX
  have CL : Hid (∀ X, MlR X (.slice ma s.mail.length mc) s.mail → Calls Tryd.prog 76 #[.slice ma s.mail.length mc] X (RefP X (errL s.mail) (lowM s.mail))) := fun X hX => least_any _ s.mail X hX
  have CM : Hid (∀ X, MlR X (.slice ma s.mail.length mc) s.mail → Calls Tryd.prog 77 #[.slice ma s.mail.length mc, .func (.func 78) #[] #[]] X fun e w' => e = .returned (.bool (!mayA s.mail)) ∧ Below X.heap.size X w') := fun X hX => containsMal_any _ s.mail X hX HB.out
  generalize svMay s = r at *
  generalize valA s.vals = bv at *
  generalize mayA s.mail = bm at *
  generalize lowM s.mail = lo at *
  generalize errL s.mail = el at *
  obtain ⟨st, ph, fr, vs, ms⟩ := s
  simp only at HV HM H1 H2 H3 H4 CV CL CM hvc hvm hmc hmm ⊢
  clear hB HB
  generalize vs.length = nv at *
  generalize ms.length = nm at *
  have X0 : BX 34 (w.alloc (.cells #[.int .i64 st, .int .i64 ph, .bool fr, .slice va nv vc, .slice ma nm mc] 34)) w.heap.size #[.int .i64 st, .int .i64 ph, .bool fr, .slice va nv vc, .slice ma nm mc] := BX.new _ _ _
  have B0 : Below w.heap.size w (w.alloc (.cells #[.int .i64 st, .int .i64 ph, .bool fr, .slice va nv vc, .slice ma nm mc] 34)) := below_alloc _ _
  go_enter Tryd.func61, Tryd.ntmps61
  go_upto_region 1 with fail
  generalize w.alloc (.cells #[.int .i64 st, .int .i64 ph, .bool fr, .slice va nv vc, .slice ma nm mc] 34) = W0 at *
  have HK : Hid (∀ X, Below W0.heap.size W0 X → BX 34 X w.heap.size #[.int .i64 st, .int .i64 ph, .bool fr, .slice va nv vc, .slice ma nm mc] ∧ Below w.heap.size w X ∧ MlR X (.slice va nv vc) vs ∧ MlR X (.slice ma nm mc) ms) := fun X hX => ⟨X0.below hX X0.lt, B0.trans (hX.mono B0.size), HV.out.below (B0.trans (hX.mono B0.size)) (Nat.le_refl _), HM.out.below (B0.trans (hX.mono B0.size)) (Nat.le_refl _)⟩
  have A0 : Hid (Below W0.heap.size W0 W0) := Below.refl _ _
  have BW0 : Hid (Below w.heap.size w W0) := B0
  obtain ⟨c0, c1, c2, c3, c4⟩ := X0.all5
  clear X0 B0 HV HM
  obtain ⟨b1, hb1⟩ : ∃ b : Bool, b = decide (¬ (0 ≤ st ∧ st ≤ 100000 ∧ (ph = 0 ∨ ph = 1))) := ⟨_, rfl⟩
  have HB1 : Hid (b1 = decide (¬ (0 ≤ st ∧ st ≤ 100000 ∧ (ph = 0 ∨ ph = 1)))) := hb1
  clear hb1
  go_cut [22] from 22 to 22 (fun t wx => t = .bool b1 ∧ W0 = wx)
  case first =>
    clear H1 H2 H3 H4 CV CL CM HK
    by_cases h1 : st < 0
    · have e : Hid (Value.bool true = .bool b1) := by show _ = _; rw [HB1.out, decide_eq_true (by omega)]
      clear HB1
      go_wp2_with fail
      go_meet
      case rel => exact ⟨e.out, rfl⟩
    · by_cases h2 : st > 100000
      · have e : Hid (Value.bool true = .bool b1) := by show _ = _; rw [HB1.out, decide_eq_true (by omega)]
        clear HB1
        go_wp2_with fail
        go_meet
        case rel => exact ⟨e.out, rfl⟩
      · by_cases h3 : ph = 0
        · have e : Hid (Value.bool false = .bool b1) := by show _ = _; rw [HB1.out, decide_eq_false (by omega)]
          have t3 : (ph != 0) = false := by simpa using h3
          clear HB1 h3
          go_wp2_with fail
          go_meet
          case rel => exact ⟨e.out, rfl⟩
        · have t3 : (ph != 0) = true := by simpa using h3
          by_cases h4 : ph = 1
          · have e : Hid (Value.bool false = .bool b1) := by show _ = _; rw [HB1.out, decide_eq_false (by omega)]
            have t4 : (ph != 1) = false := by simpa using h4
            clear HB1 h3 h4
            go_wp2_with fail
            go_meet
            case rel => exact ⟨e.out, rfl⟩
          · have e : Hid (Value.bool true = .bool b1) := by show _ = _; rw [HB1.out, decide_eq_true (by omega)]
            have t4 : (ph != 1) = true := by simpa using h4
            clear HB1 h3 h4
            go_wp2_with fail
            go_meet
            case rel => exact ⟨e.out, rfl⟩
  case rest =>
  obtain ⟨rfl, rfl⟩ := hcut
  cases b1
  · have HH : Hid (0 ≤ st ∧ st ≤ 100000 ∧ (ph = 0 ∨ ph = 1)) := by have h := of_decide_eq_false HB1.out.symm; exact Classical.not_not.1 h
    clear HB1 H1
    go_upto_region 3 with fail
    obtain ⟨b2, hb2⟩ : ∃ b : Bool, b = decide (¬ (nv ≤ 200 ∧ bv = true)) := ⟨_, rfl⟩
    have HB2 : Hid (b2 = decide (¬ (nv ≤ 200 ∧ bv = true))) := hb2
    clear hb2
    go_cut [31] from 31 to 31 (fun t wx => t = .bool b2 ∧ Below W0.heap.size W0 wx)
    case first =>
      by_cases h1 : 200 < nv
      · have e : Hid (Value.bool true = .bool b2) := by show _ = _; rw [HB2.out, decide_eq_true (by omega)]
        have t1 : decide ((nv : Int) > 200) = true := decide_eq_true (by omega)
        have t1' : (200 : Int) < (nv : Int) := by omega
        clear HB2 H2 H3 H4 CV CL CM
        go_wp2_with fail
        go_meet
        case rel => exact ⟨e.out, A0.out⟩
      · have e : Hid (Value.bool (!bv) = .bool b2) := by
          show _ = _
          rw [HB2.out]
          cases bv
          · rw [decide_eq_true (by simp)]; rfl
          · rw [decide_eq_false (by simp; omega)]; rfl
        have t1 : decide ((nv : Int) > 200) = false := decide_eq_false (by omega)
        have t1' : ¬ (200 : Int) < (nv : Int) := by omega
        clear HB2 H2 H3 H4 CL CM
        go_wp2_with fail
        refine (CV.out _ (HK.out _ A0.out).2.2.1).mono ?_
        rintro e w1 ⟨rfl, hb1⟩
        have A1 : Hid (Below W0.heap.size W0 w1) := hb1
        clear hb1
        go_wp2_with fail
        go_meet
        case rel => exact ⟨e.out, A1.out⟩
    case rest =>
    obtain ⟨rfl, hbc⟩ := hcut
    have AC : Hid (Below W0.heap.size W0 wc) := hbc
    obtain ⟨Q1, bw1, _, _⟩ := HK.out _ hbc
    have BW1 : Hid (Below w.heap.size w wc) := bw1
    clear c0 c1 c2 c3 c4 hbc bw1
    obtain ⟨c0, c1, c2, c3, c4⟩ := Q1.all5
    clear Q1
    cases b2
    · have HJ : Hid (nv ≤ 200 ∧ bv = true) := by have h := of_decide_eq_false HB2.out.symm; exact Classical.not_not.1 h
      clear HB2 H2 CV
      go_wp2_with fail
      refine (CL.out _ (HK.out _ AC.out).2.2.2).mono ?_
      rintro e w2 ⟨v2, rfl, ho2, hb2⟩
      have A2 : Hid (Below W0.heap.size W0 w2) := AC.out.trans (hb2.mono AC.out.size)
      obtain ⟨Q2, bw2, _, _⟩ := HK.out _ A2.out
      have BW2 : Hid (Below w.heap.size w w2) := bw2
      clear c0 c1 c2 c3 c4 ho2 hb2 bw2 AC BW1
      obtain ⟨c0, c1, c2, c3, c4⟩ := Q2.all5
      clear Q2
      by_cases h3 : el = 0
      · have e := H4.out HH.out HJ.out h3
        have HR : Hid (r = bm) := e
        have t3 : (el != 0) = false := by simpa using h3
        clear e h3 H3 H4 CL
        go_wp2_with fail
        refine (CM.out _ (HK.out _ A2.out).2.2.2).mono ?_
        rintro e w3 ⟨rfl, hb3⟩
        have BW3 : Hid (Below w.heap.size w w3) := BW2.out.trans (hb3.mono BW2.out.size)
        clear hb3 c0 c1 c2 c3 c4
        go_wp2_with fail
        go_ret
        exact ⟨ret_bool (by rw [HR.out]), BW3.out⟩
      · have e := H3.out h3
        subst e
        have t3 : (el != 0) = true := by simpa using h3
        clear h3 H3 H4 CL CM
        go_wp2_with fail
        go_ret
        exact ⟨rfl, BW2.out⟩
    · have e := H2.out (by have := HB2.out; exact of_decide_eq_true this.symm)
      subst e
      clear HB2 H2 H3 H4 CV CL CM
      go_wp2_with fail
      go_ret
      exact ⟨rfl, BW1.out⟩
  · have e := H1.out (by have := HB1.out; exact of_decide_eq_true this.symm)
    subst e
    clear HB1 H1 H2 H3 H4 CV CL CM
    go_wp2_with fail
    go_ret
    exact ⟨rfl, BW0.out⟩
end Go.Proofs.YthakibcfmbkpkaaDoor

namespace Go.Proofs.YthakibcfmbkpkaaDoor
set_option maxRecDepth 100000
open Go.ChangeShapes Go.WideShapes Go.ChangeAt Go.RowKit

def putS (w : World) (q : Nat) (a b c d e : Value) : World := ((((w.setCell ⟨q, 0, none⟩ a).setCell ⟨q, 1, none⟩ b).setCell ⟨q, 2, none⟩ c).setCell ⟨q, 3, none⟩ d).setCell ⟨q, 4, none⟩ e
theorem BX.putS {t : TypeId} {w : World} {q : Nat} {a b c d e x1 x2 x3 x4 x5 : Value} (h : BX t w q #[a, b, c, d, e]) : BX t (putS w q x1 x2 x3 x4 x5) q #[x1, x2, x3, x4, x5] := ((((h.set 0 x1).set 1 x2).set 2 x3).set 3 x4).set 4 x5
theorem kept_putS (w : World) (q : Nat) (a b c d e : Value) : Kept (fun k => k = q) w (Go.Proofs.YthakibcfmbkpkaaDoor.putS w q a b c d e) := ((((Kept.box _ _ _ _).trans (Kept.box _ _ _ _)).trans (Kept.box _ _ _ _)).trans (Kept.box _ _ _ _)).trans (Kept.box _ _ _ _)
theorem BX.all5f {t : TypeId} {w : World} {q : Nat} {a b c d e : Value} (h : BX t w q #[a, b, c, d, e]) : w.frozen? ⟨q, 0, none⟩ = false ∧ w.frozen? ⟨q, 1, none⟩ = false ∧ w.frozen? ⟨q, 2, none⟩ = false ∧ w.frozen? ⟨q, 3, none⟩ = false ∧ w.frozen? ⟨q, 4, none⟩ = false := ⟨h.frozen 0, h.frozen 1, h.frozen 2, h.frozen 3, h.frozen 4⟩
theorem encS_bd (s : SvS) : ∀ x ∈ (encS s).1, 0 ≤ x ∧ x ≤ 255 := by
  cases h : svMay s with
  | false => rw [encS_no h]; intro x hx; cases hx
  | true =>
    by_cases h2 : (bytN (numsS s)).length ≤ 20000
    · rw [encS_yes h h2]
      exact wrap_bytes (bytN_bytes fun n hn => ⟨(numsS_in h n hn).1, by have := (numsS_in h n hn).2; omega⟩) h2
    · rw [encS_big h h2]; intro x hx; cases hx
end Go.Proofs.YthakibcfmbkpkaaDoor

namespace Go.Proofs.YthakibcfmbkpkaaDoor
set_option maxRecDepth 100000
open Go.ChangeShapes Go.WideShapes Go.ChangeAt Go.RowKit

theorem own_off {t : TypeId} {w w' : World} {q base n size : Nat} {el : TypeId} {v : Value} {xs : List Value} {cs : Array Value} (ho : w.ownsRow base el size v n xs) (hq : BX t w q cs) (hne : el ≠ t) (hk : Kept (fun k => k = q) w w') : w'.ownsRow base el size v n xs := hk.own ho fun _ hg => own_block ho hg hq hne
end Go.Proofs.YthakibcfmbkpkaaDoor

namespace Go.Proofs.YthakibcfmbkpkaaDoor
set_option maxRecDepth 100000
open Go.ChangeShapes Go.WideShapes Go.ChangeAt Go.RowKit

theorem Tryd.infoV : (Tryd.prog.info? 73).map (fun i => (i.zero, i.size, i.bytes)) = some (some (.agg #[.int .i64 0, .int .i64 0]), 2, 16) := by kernel_rfl
def kV : ElK Ml := ⟨encM, 2, 31, 73, 16, .agg #[.int .i64 0, .int .i64 0], Tryd.underlying31, Tryd.infoV, rfl, by decide, encM_len, encM_one⟩
end Go.Proofs.YthakibcfmbkpkaaDoor

namespace Go.Proofs.YthakibcfmbkpkaaDoor
set_option maxRecDepth 100000
open Go.RowKit

/-- What the others must come to. -/
def postLast (P : Program) (o : Oper) (Q : Exit → Act → World → Prop) : Exit → Act → World → Prop
  | .normal, a, w => o.wp P a w (fun a' w' => Q .normal a' w') Q
  | e, a, w => Q e a w

/-- Each of the others waits for earlier ones alone; the last one waits for all. -/
def lastOK (md : Region.Mode) (ops : Array Oper) (o : Oper) : Bool :=
  o.guard.isNone && (List.range ops.size).all fun i =>
    (match ops[i]? with
      | some x => x.guard.isNone && x.after.toList.all (fun e => !Region.binds md e || decide (e.on < i))
      | none => false) && o.after.toList.any (fun e => Region.binds md e && e.on == i)
def lastIn (md : Region.Mode) (n : Nat) (o : Oper) : Bool := o.after.toList.all fun e => !Region.binds md e || decide (e.on < n)

section
variable {P : Program} {md : Region.Mode} {ops : Array Oper} {o : Oper} {Q : Exit → Act → World → Prop}

theorem wp_postLast {x : Oper} {a : Act} {w : World} {K : Act → World → Prop} (h : x.wp P a w K (postLast P o Q)) : x.wp P a w K Q := by
  unfold Oper.wp at *
  generalize (execOp a.eval x).run P w = r at *
  cases r with
  | ok n w' => cases n <;> exact h
  | halt e w' => cases e <;> exact h
theorem letsOut_postLast (h : LetsOut (postLast P o Q)) : LetsOut Q := h

theorem lastOK_guard (h : lastOK md ops o = true) : o.guard = none := by
  unfold lastOK at h
  rw [Bool.and_eq_true] at h
  simpa using h.1
theorem lastOK_at (h : lastOK md ops o = true) {i : Nat} {x : Oper} (hx : ops[i]? = some x) : x.guard = none ∧ (∀ e ∈ x.after, Region.binds md e = true → e.on < i) ∧ ∃ e ∈ o.after, Region.binds md e = true ∧ e.on = i := by
  unfold lastOK at h
  rw [Bool.and_eq_true] at h
  have hi : i < ops.size := (Array.getElem?_eq_some_iff.1 hx).1
  have := List.all_eq_true.1 h.2 i (List.mem_range.2 hi)
  rw [hx] at this
  simp only [Bool.and_eq_true] at this
  obtain ⟨⟨h1, h2⟩, h3⟩ := this
  refine ⟨by simpa using h1, fun e he hb => ?_, ?_⟩
  · have := List.all_eq_true.1 h2 e (Array.mem_toList_iff.2 he)
    rw [hb] at this
    simpa using this
  · obtain ⟨e, he, hb⟩ := List.any_eq_true.1 h3
    simp only [Bool.and_eq_true, beq_iff_eq] at hb
    exact ⟨e, Array.mem_toList_iff.1 he, hb.1, hb.2⟩

theorem getD_push_lt {l : Array Bool} {b d : Bool} {j : Nat} (h : j < l.size) : (l.push b).getD j d = l.getD j d := by
  simp [Array.getD, Array.getElem_push_lt h, h, Nat.lt_succ_of_lt h]
theorem getD_push_eq {l : Array Bool} {b d : Bool} : (l.push b).getD l.size d = b := by simp [Array.getD]
theorem getD_dflt {l : Array Bool} {j : Nat} (h : j < l.size) (d d' : Bool) : l.getD j d = l.getD j d' := by simp [Array.getD, h]

theorem ready_push {l : Array Bool} {b : Bool} (hs : l.size = ops.size) (h : lastOK md ops o = true) {j : Nat} (hj : j < ops.size) : j ∈ Region.ready md (ops.push o) (l.push b) ↔ j ∈ Region.ready md ops l := by
  rw [mem_ready, mem_ready, getD_push_lt (by omega)]
  have e : (ops.push o)[j]? = ops[j]? := by simp [Array.getElem?_push, Nat.ne_of_lt hj]
  rw [e]
  refine and_congr_right fun _ => ⟨?_, ?_⟩
  · rintro ⟨x, hx, ha⟩
    refine ⟨x, hx, fun e he hb => ?_⟩
    have := (lastOK_at h hx).2.1 e he hb
    have h2 := ha e he hb
    rwa [getD_push_lt (by omega)] at h2
  · rintro ⟨x, hx, ha⟩
    refine ⟨x, hx, fun e he hb => ?_⟩
    have := (lastOK_at h hx).2.1 e he hb
    rw [getD_push_lt (by omega)]
    exact ha e he hb
/-- Where nothing may come up, all have. -/
theorem ready_all {l : Array Bool} (hs : l.size = ops.size) (h : lastOK md ops o = true) (h0 : Region.ready md ops l = []) : ∀ j, j < ops.size → l.getD j false = true := by
  intro j
  induction j using Nat.strongRecOn with
  | _ j ih =>
    intro hj
    cases hl : l.getD j false
    · exfalso
      have : j ∈ Region.ready md ops l := by
        rw [mem_ready]
        refine ⟨by rw [getD_dflt (by omega) true false]; exact hl, ops[j], by simp [hj], fun e he hb => ?_⟩
        have := (lastOK_at h (Array.getElem?_eq_getElem hj)).2.1 e he hb
        exact ih e.on this (by omega)
      rw [h0] at this
      cases this
    · rfl
theorem ready_last {l : Array Bool} (hs : l.size = ops.size) (hin : lastIn md ops.size o = true) (hall : ∀ j, j < ops.size → l.getD j false = true) : ops.size ∈ Region.ready md (ops.push o) (l.push false) := by
  rw [mem_ready]
  refine ⟨by rw [← hs]; exact getD_push_eq, o, by simp, fun e he hb => ?_⟩
  have := List.all_eq_true.1 hin e (Array.mem_toList_iff.2 he)
  rw [hb] at this
  have hlt : e.on < ops.size := by simpa using this
  rw [getD_push_lt (by omega)]
  exact hall e.on hlt
theorem last_ready {l : Array Bool} (hs : l.size = ops.size) (h : lastOK md ops o = true) (hr : ops.size ∈ Region.ready md (ops.push o) (l.push false)) : Region.ready md ops l = [] := by
  rw [mem_ready] at hr
  obtain ⟨_, x, hx, ha⟩ := hr
  have ex : x = o := by simpa using hx.symm
  subst ex
  refine List.eq_nil_iff_forall_not_mem.2 fun j hj => ?_
  rw [mem_ready] at hj
  obtain ⟨h1, y, hy, _⟩ := hj
  have hjn : j < ops.size := (Array.getElem?_eq_some_iff.1 hy).1
  obtain ⟨_, _, e, he, hb, hon⟩ := lastOK_at h hy
  have := ha e he hb
  rw [hon, getD_push_lt (by omega), getD_dflt (by omega) false true, h1] at this
  cases this
theorem ready_done {l : Array Bool} (hs : l.size = ops.size) (h : lastOK md ops o = true) (h0 : Region.ready md ops l = []) : Region.ready md (ops.push o) (l.push true) = [] := by
  refine List.eq_nil_iff_forall_not_mem.2 fun j hj => ?_
  rcases Nat.lt_or_ge j ops.size with hlt | hge
  · rw [ready_push hs h hlt, h0] at hj; cases hj
  · rw [mem_ready] at hj
    obtain ⟨h1, y, hy, _⟩ := hj
    have hjn := (Array.getElem?_eq_some_iff.1 hy).1
    have ej : j = l.size := by simp at hjn; omega
    rw [ej, getD_push_eq] at h1
    cases h1

theorem wpAny_end {l : Array Bool} {a : Act} {w : World} (h0 : Region.ready md ops l = []) (h : Q .normal a w) : ∀ fuel, wpAny P md ops Q fuel l a w
  | 0 => ⟨h0, h⟩
  | _ + 1 => ⟨fun _ => h, by rw [h0]; simp⟩

theorem wpOp_last {l : Array Bool} {a : Act} {w : World} (hs : l.size = ops.size) (h : lastOK md ops o = true) (h0 : Region.ready md ops l = []) (hq : postLast P o Q .normal a w) (fuel : Nat) :
    wpOp P (ops.push o) Q ops.size (wpAny P md (ops.push o) Q fuel ((l.push false).setIfInBounds ops.size true)) a w := by
  unfold wpOp
  have e : (ops.push o)[ops.size]? = some o := by simp
  simp only [e]
  have hw : Region.wanted o (yielded (ops.push o) a.tmps) = true := by simp [Region.wanted, lastOK_guard h]
  rw [if_pos hw]
  refine .inl (Oper.wp_mono (fun a' w' h' => ?_) hq)
  have e2 : (l.push false).setIfInBounds ops.size true = l.push true := by
    rw [← hs]
    refine Array.ext_getElem? fun i => ?_
    rw [Array.getElem?_setIfInBounds, Array.getElem?_push, Array.getElem?_push]
    by_cases hi : l.size = i
    · subst hi; simp
    · simp [hi, Ne.symm hi]
  rw [e2]
  exact wpAny_end (ready_done hs h h0) h' _

theorem wpAny_last (h : lastOK md ops o = true) (hin : lastIn md ops.size o = true) : ∀ (fuel : Nat) (l : Array Bool) (a : Act) (w : World), l.size = ops.size →
    wpAny P md ops (postLast P o Q) fuel l a w → wpAny P md (ops.push o) Q (fuel + 1) (l.push false) a w := by
  intro fuel
  induction fuel with
  | zero =>
    intro l a w hs hp
    obtain ⟨h0, hq⟩ := hp
    refine ⟨fun h1 => ?_, fun i hi => ?_⟩
    · have := ready_last hs hin (ready_all hs h h0)
      rw [h1] at this; cases this
    · rcases Nat.lt_or_ge i ops.size with hlt | hge
      · rw [ready_push hs h hlt, h0] at hi; cases hi
      · have ei : i = ops.size := by
          obtain ⟨_, y, hy, _⟩ := mem_ready.1 hi
          have := (Array.getElem?_eq_some_iff.1 hy).1
          simp at this; omega
        subst ei
        exact wpOp_last hs h h0 hq _
  | succ fuel ih =>
    intro l a w hs hp
    obtain ⟨hq, hop⟩ := hp
    refine ⟨fun h1 => ?_, fun i hi => ?_⟩
    · have h0 : Region.ready md ops l = [] := List.eq_nil_iff_forall_not_mem.2 fun j hj => by
        have hjn : j < ops.size := by
          obtain ⟨_, y, hy, _⟩ := mem_ready.1 hj
          exact (Array.getElem?_eq_some_iff.1 hy).1
        have := (ready_push (b := false) hs h hjn).2 hj
        rw [h1] at this; cases this
      have := ready_last hs hin (ready_all hs h h0)
      rw [h1] at this; cases this
    · rcases Nat.lt_or_ge i ops.size with hlt | hge
      · have hi0 := (ready_push hs h hlt).1 hi
        have h1 := hop i hi0
        unfold wpOp at h1 ⊢
        have e : (ops.push o)[i]? = some ops[i] := by simp [Array.getElem?_push, Nat.ne_of_lt hlt, hlt]
        have e0 : ops[i]? = some ops[i] := by simp [hlt]
        simp only [e]
        simp only [e0] at h1
        have hg := (lastOK_at h e0).1
        have hw : ∀ t, Region.wanted ops[i] t = true := fun t => by simp [Region.wanted, hg]
        rw [if_pos (hw _)] at h1 ⊢
        have e2 : (l.push false).setIfInBounds i true = (l.setIfInBounds i true).push false := by
          refine Array.ext_getElem? fun j => ?_
          rw [Array.getElem?_setIfInBounds, Array.getElem?_push, Array.getElem?_push, Array.getElem?_setIfInBounds, Array.size_setIfInBounds, Array.size_push]
          by_cases hj : i = j
          · subst hj
            have h1 : i < l.size := by omega
            have h2 : i < l.size + 1 := by omega
            have h3 : ¬ i = l.size := by omega
            simp [h1, h2, h3]
          · simp [hj]
        rw [e2]
        rcases h1 with h1 | ⟨h1, h2⟩
        · exact .inl (wp_postLast (Oper.wp_mono (fun a' w' h' => ih _ a' w' (by simpa using hs) h') h1))
        · exact .inr ⟨h1, letsOut_postLast h2⟩
      · have ei : i = ops.size := by
          obtain ⟨_, y, hy, _⟩ := mem_ready.1 hi
          have := (Array.getElem?_eq_some_iff.1 hy).1
          simp at this; omega
        subst ei
        have h0 := last_ready hs h hi
        exact wpOp_last hs h h0 (hq h0) _

/-- The law. -/
theorem region_last {id : Nat} {a : Act} {w : World} {S : World → Prop} (hm : P.follows .mixedOrders = true) (h : lastOK .any ops o = true) (hin : lastIn .any ops.size o = true)
    (hp : wpAnyH P .any ops (postLast P o Q) S ops.size (Array.replicate ops.size false) a w.drew) : (Code.region id (ops.push o) true).wp P Q a w := by
  refine wp_region_any hm ?_
  have e1 : (ops.push o).size = ops.size + 1 := by simp
  have e2 : Array.replicate (ops.size + 1) false = (Array.replicate ops.size false).push false := Array.replicate_succ
  rw [e1, e2]
  exact wpAny_last h hin _ _ _ _ (by simp) (wpAny_of_held _ _ _ _ hp)
/-- An operation is taken first; its slot is named. -/
theorem takeH {S : World → Prop} {i : Nat} {oi : Oper} {v : Value} {d : Tmp} {fuel : Nat} {listed : Array Bool} {a : Act} {w : World} (hi : ops[i]? = some oi) (hd : oi.dst = some d)
    (hs : Region.noSelect ops = true) (hf : Region.free md ops listed i = true) (hr : (Region.ready md ops listed).contains i = true)
    (hQ : ∀ c a w, Q (.panic c) (a.put (some d) v) w → Q (.panic c) a w) (hw : Region.wanted oi (yielded ops a.tmps) = true) (hy : ∀ w, S w → (execOp a.eval oi).run P w = .ok (.value v) w) (hS : S w)
    (h : wpAnyH P md ops Q S fuel (listed.setIfInBounds i true) (a.put (some d) v) w) : wpAnyH P md ops Q S (fuel + 1) listed a w :=
  wpAnyH_take hi hs hf hr (by rw [hd]; exact hQ) (.inl ⟨hw, hy⟩) hS (by rw [hd]; exact h)
/-- Just one operation may come up, and is carried out; S is had again behind it. -/
theorem oneH {S : World → Prop} {i : Nat} {oi : Oper} {fuel : Nat} {listed : Array Bool} {a : Act} {w : World} (hi : ops[i]? = some oi) (hr : Region.ready md ops listed = [i]) (hg : oi.guard = none)
    (h : oi.wp P a w (fun a' w' => S w' ∧ wpAnyH P md ops Q S fuel (listed.setIfInBounds i true) a' w') Q) : wpAnyH P md ops Q S (fuel + 1) listed a w := by
  refine wpAnyH_all hr (by simp) fun j hj => ?_
  obtain rfl : j = i := by simpa using hj
  unfold wpOp
  simp only [hi]
  rw [if_pos (by simp [Region.wanted, hg])]
  exact .inl h
/-- A call that leaves the world as it was. -/
theorem call_same {oi : Oper} {a : Act} {w : World} {K : Act → World → Prop} {d : Tmp} {f : FuncId} {xs : Array Operand} {ats : Array TypeId} (hd : oi.dst = some d) (hop : oi.op = Op.call { callee := Callee.value (.func f), args := xs, argTypes := ats })
    (he : ∀ args w, (callFunc f args).run P w = .ok (.enter f args) w) {vs : Array Value} (hxs : xs.map a.eval = vs) {v : Value} (hc : Calls P f vs w fun e w' => e = .returned v ∧ w' = w) (hK : K (a.put (some d) v) w) : oi.wp P a w K Q := by
  unfold Oper.wp
  have hr : (execOp a.eval oi).run P w = .ok (.enter f vs) w := by
    have h2 : xs.map a.eval = vs := hxs
    simp [execOp, hop, resolve, invoke, Act.eval, Deferred.ofValue]
    have h3 := he (xs.map a.eval) w
    rw [h2] at h3
    rw [← h2] at h3 ⊢
    exact h3
  rw [hr, Oper.upon_enter]
  exact hc.mono (by rintro e w' ⟨rfl, rfl⟩; rw [hd]; exact hK)
/-- An append whose run is known. -/
theorem call_append {oi : Oper} {a : Act} {w w' : World} {K : Act → World → Prop} {d : Tmp} {s x : Operand} {t : TypeId} (hd : oi.dst = some d) (hop : oi.op = Op.call { callee := Callee.builtin Builtin.append, args := #[s, x], argTypes := #[t, t] })
    {v v2 v' : Value} (hs : a.eval s = v) (hx : a.eval x = v2) (hrun : (Builtin.append_ #[t, t] oi.type #[v, v2]).run P w = .ok v' w') (hK : K (a.put (some d) v') w') : oi.wp P a w K Q := by
  unfold Oper.wp
  simp [execOp, hop, resolve, invoke, builtin, hs, hx, hrun, Result.andThen]
  rw [Oper.upon_value, hd]
  exact hK
/-- An operation whose run is known. -/
theorem op_run {oi : Oper} {a : Act} {w w' : World} {K : Act → World → Prop} {d : Tmp} {v' : Value} (hd : oi.dst = some d) (hrun : (execOp a.eval oi).run P w = .ok (.value v') w') (hK : K (a.put (some d) v') w') : oi.wp P a w K Q := by
  unfold Oper.wp
  rw [hrun, Oper.upon_value, hd]
  exact hK
/-- The same for a region that is written out. -/
theorem region_lastF {id : Nat} {a : Act} {w : World} {S : World → Prop} (hm : P.follows .mixedOrders = true) (hf : ops.pop.push ops.back! = ops) (h : lastOK .any ops.pop ops.back! = true) (hin : lastIn .any ops.pop.size ops.back! = true)
    (hp : wpAnyH P .any ops.pop (postLast P ops.back! Q) S ops.pop.size (Array.replicate ops.pop.size false) a w.drew) : (Code.region id ops true).wp P Q a w := by
  have := region_last (id := id) hm h hin hp
  rwa [hf] at this
end
end Go.Proofs.YthakibcfmbkpkaaDoor

namespace Go.Proofs.YthakibcfmbkpkaaDoor
set_option maxRecDepth 100000
open Go.RowKit

section
variable {P : Program} {Q : Exit → Act → World → Prop}
/-- A call, its result and its world taken up. -/
theorem call_gets {oi : Oper} {a : Act} {w : World} {K : Act → World → Prop} {d : Tmp} {f : FuncId} {xs : Array Operand} {ats : Array TypeId} (hd : oi.dst = some d) (hop : oi.op = Op.call { callee := Callee.value (.func f), args := xs, argTypes := ats })
    (he : ∀ args w, (callFunc f args).run P w = .ok (.enter f args) w) {vs : Array Value} (hxs : xs.map a.eval = vs) {R : Value → World → Prop} (hc : Calls P f vs w fun e w' => ∃ v, e = .returned v ∧ R v w') (hK : ∀ v w', R v w' → K (a.put (some d) v) w') : oi.wp P a w K Q := by
  unfold Oper.wp
  have hr : (execOp a.eval oi).run P w = .ok (.enter f vs) w := by
    have h2 : xs.map a.eval = vs := hxs
    simp [execOp, hop, resolve, invoke, Act.eval, Deferred.ofValue]
    have h3 := he (xs.map a.eval) w
    rw [h2] at h3
    rw [← h2] at h3 ⊢
    exact h3
  rw [hr, Oper.upon_enter]
  exact hc.mono (by rintro e w' ⟨v, rfl, h⟩; rw [hd]; exact hK _ _ h)
/-- A call that gives up. -/
theorem call_up {oi : Oper} {a : Act} {w : World} {K : Act → World → Prop} {f : FuncId} {xs : Array Operand} {ats : Array TypeId} (hop : oi.op = Op.call { callee := Callee.value (.func f), args := xs, argTypes := ats })
    (he : ∀ args w, (callFunc f args).run P w = .ok (.enter f args) w) {vs : Array Value} (hxs : xs.map a.eval = vs) {R : World → Prop} {c : List PanicEntry} (hc : Calls P f vs w fun e w' => e = .panicked c ∧ R w') (hQ : ∀ w', R w' → Q (.panic c) a w') : oi.wp P a w K Q := by
  unfold Oper.wp
  have hr : (execOp a.eval oi).run P w = .ok (.enter f vs) w := by
    have h2 : xs.map a.eval = vs := hxs
    simp [execOp, hop, resolve, invoke, Act.eval, Deferred.ofValue]
    have h3 := he (xs.map a.eval) w
    rw [h2] at h3
    rw [← h2] at h3 ⊢
    exact h3
  rw [hr, Oper.upon_enter]
  exact hc.mono (by rintro e w' ⟨rfl, h⟩; exact hQ _ h)
/-- A store whose run is known. -/
theorem op_skip {oi : Oper} {a : Act} {w w' : World} {K : Act → World → Prop} (hd : oi.dst = none) (hrun : (execOp a.eval oi).run P w = .ok .skip w') (hK : K a w') : oi.wp P a w K Q := by
  unfold Oper.wp
  rw [hrun, Oper.upon_skip, hd]
  exact hK
/-- Just two operations may come up. -/
theorem twoH {ops : Array Oper} {md : Region.Mode} {S : World → Prop} {i j : Nat} {oi oj : Oper} {fuel : Nat} {listed : Array Bool} {a : Act} {w : World} (hi : ops[i]? = some oi) (hj : ops[j]? = some oj) (hr : Region.ready md ops listed = [i, j]) (gi : oi.guard = none) (gj : oj.guard = none)
    (h1 : oi.wp P a w (fun a' w' => S w' ∧ wpAnyH P md ops Q S fuel (listed.setIfInBounds i true) a' w') Q) (h2 : oj.wp P a w (fun a' w' => S w' ∧ wpAnyH P md ops Q S fuel (listed.setIfInBounds j true) a' w') Q) : wpAnyH P md ops Q S (fuel + 1) listed a w := by
  refine wpAnyH_all hr (by simp) fun k hk => ?_
  rcases (by simpa using hk : k = i ∨ k = j) with rfl | rfl
  · unfold wpOp
    simp only [hi]
    rw [if_pos (by simp [Region.wanted, gi])]
    exact .inl h1
  · unfold wpOp
    simp only [hj]
    rw [if_pos (by simp [Region.wanted, gj])]
    exact .inl h2
end
end Go.Proofs.YthakibcfmbkpkaaDoor

namespace Go.Proofs.YthakibcfmbkpkaaDoor
set_option maxRecDepth 100000
open Go.ChangeShapes Go.WideShapes Go.ChangeAt Go.RowKit

theorem wrap_numC (l : List Int) : IntKind.i64.wrap ((numC l).1 - 0) = (numC l).1 := by
  show IntKind.i64.wrap (IntKind.i64.wrap (get l).1 - 0) = IntKind.i64.wrap (get l).1
  rw [IntKind.wrap_i64, IntKind.wrap_i64]
  omega
theorem pairsK_zero (k : Nat) (l : List Int) : pairsK 0 (k + 1) l = ((pairsK 0 k l).1 ++ [((numC (pairsK 0 k l).2).1, (numC (numC (pairsK 0 k l).2).2).1)], (numC (numC (pairsK 0 k l).2).2).2) := by
  show ((pairsK 0 k l).1 ++ [(IntKind.i64.wrap ((numC (pairsK 0 k l).2).1 - 0), IntKind.i64.wrap ((numC (numC (pairsK 0 k l).2).2).1 - 0))], (numC (numC (pairsK 0 k l).2).2).2) = _
  rw [wrap_numC, wrap_numC]
/-- While a payload is gone through: the reader in the block B + 1, what is made in B + 2, its rows behind. -/
structure PsI (w X : World) (B : Nat) (l : List Int) (a b : Int) (c : Bool) (vv vm : Value) (vs ms : List Ml) : Prop where
  rd : RdC X (B + 1) l
  box : BX 34 X (B + 2) #[.int .i64 a, .int .i64 b, .bool c, vv, vm]
  vals : X.ownsRow (B + 3) 73 2 vv vs.length (vs.flatMap encM)
  mail : X.ownsRow (B + 3) 75 2 vm ms.length (ms.flatMap encM)
  low : Below B w X
  zero : BX 34 X B #[.int .i64 0, .int .i64 0, .bool false, .slice none 0 0, .slice none 0 0]
  size : B + 3 ≤ X.heap.size
section
variable {w X X' : World} {B : Nat} {l l' : List Int} {a b : Int} {c : Bool} {vv vm v' : Value} {vs ms l2 : List Ml}
theorem PsI.drew (h : PsI w X B l a b c vv vm vs ms) : PsI w X.drew B l a b c vv vm vs ms := ⟨h.rd.kept (Kept.refl (fun _ => False) X).drew (fun _ _ h => h), h.box, h.vals, h.mail, h.low.drew, h.zero, h.size⟩
theorem PsI.num (h : PsI w X B l a b c vv vm vs ms) (hr : RdC X' (B + 1) l') (hk : Kept (fun k => k = B + 1) X X') (hs : X'.heap.size = X.heap.size) : PsI w X' B l' a b c vv vm vs ms :=
  ⟨hr, h.box.kept hk (by omega), hk.own h.vals fun g hg e => by have := (h.vals.lt g hg).1; omega, hk.own h.mail fun g hg e => by have := (h.mail.lt g hg).1; omega, h.low.trans (hk.below (by have := h.size; omega) fun k e => by omega), h.zero.kept hk (by omega), by have := h.size; omega⟩
theorem PsI.alloc (h : PsI w X B l a b c vv vm vs ms) (ob : Obj) : PsI w (X.alloc ob) B l a b c vv vm vs ms :=
  ⟨h.rd.kept ((Kept.refl (fun _ => False) X).alloc ob) (fun _ _ h => h), h.box.below (below_alloc _ _) h.box.lt, h.vals.alloc _, h.mail.alloc _, h.low.alloc (by have := h.size; omega) _, h.zero.below (below_alloc _ _) h.zero.lt, by have := h.size; simp; omega⟩
theorem PsI.setV (h : PsI w X B l a b c vv vm vs ms) (hg : X.grownBy X' vv.ownBlock) (ho : X'.ownsRow (B + 3) 73 2 v' l2.length (l2.flatMap encM)) : BX 34 X' (B + 2) #[.int .i64 a, .int .i64 b, .bool c, vv, vm] ∧ PsI w (X'.setCell ⟨B + 2, 3, none⟩ v') B l a b c v' vm l2 ms := by
  have hk : Kept (fun k => B + 3 ≤ k) X X' := (Kept.refl _ X).grown hg fun k e => .inl (h.vals.lt k e).1
  have hs := h.size
  have hb := h.box.kept hk (by omega)
  have hm := h.mail.kept hg (own_apart h.mail h.vals (by decide))
  have hl := h.low.trans (hk.below (B := B) (by omega) fun k e => by omega)
  exact ⟨hb, (h.rd.kept hk (fun k h1 h2 => by omega)).kept (Kept.box X' (B + 2) 3 v') (fun k h1 h2 => by omega), hb.set 3 v', hb.own ho (by decide), hb.own hm (by decide), hl.setCell (by simp) _, (h.zero.kept hk (by omega)).other (by omega), by have := hk.size; simp; omega⟩
theorem PsI.setM (h : PsI w X B l a b c vv vm vs ms) (hg : X.grownBy X' vm.ownBlock) (ho : X'.ownsRow (B + 3) 75 2 v' l2.length (l2.flatMap encM)) : BX 34 X' (B + 2) #[.int .i64 a, .int .i64 b, .bool c, vv, vm] ∧ PsI w (X'.setCell ⟨B + 2, 4, none⟩ v') B l a b c vv v' vs l2 := by
  have hk : Kept (fun k => B + 3 ≤ k) X X' := (Kept.refl _ X).grown hg fun k e => .inl (h.mail.lt k e).1
  have hs := h.size
  have hb := h.box.kept hk (by omega)
  have hm := h.vals.kept hg (own_apart h.vals h.mail (by decide))
  have hl := h.low.trans (hk.below (B := B) (by omega) fun k e => by omega)
  exact ⟨hb, (h.rd.kept hk (fun k h1 h2 => by omega)).kept (Kept.box X' (B + 2) 4 v') (fun k h1 h2 => by omega), hb.set 4 v', hb.own hm (by decide), hb.own ho (by decide), hl.setCell (by simp) _, (h.zero.kept hk (by omega)).other (by omega), by have := hk.size; simp; omega⟩
end

set_option maxHeartbeats 4000000 in
set_option maxRecDepth 100000 in
theorem parse_any (v : Value) (l : List Int) (w : World) (hr : Reads .u8 w v l) (hb : ∀ a n c, v = .slice (some a) n c → a.block < w.heap.size) (hx : ∀ x ∈ l, 0 ≤ x ∧ x ≤ 255) (hl : l.length ≤ 1000000) :
    Calls Tryd.prog 44 #[v] w fun e w' => ∃ v1 v2, e = .returned (.agg #[.int .i64 (parseC l).step, .int .i64 (parseC l).phase, .bool (parseC l).fresh, v1, v2]) ∧ w'.ownsRow w.heap.size 73 2 v1 (parseC l).vals.length ((parseC l).vals.flatMap encM) ∧ w'.ownsRow w.heap.size 75 2 v2 (parseC l).mail.length ((parseC l).mail.flatMap encM) ∧ Below w.heap.size w w' := by
  obtain ⟨va, vc, rfl⟩ : ∃ a c, v = .slice a l.length c := by obtain ⟨a, c, e, _⟩ := hr; exact ⟨a, c, e⟩
  have HN : Hid (∀ X l, RdC X (w.heap.size + 1) l → Calls Tryd.prog 59 #[.pointer (some ⟨w.heap.size + 1, 0, none⟩)] X fun e w' => ∃ v, e = .returned v ∧ (v = .int .i64 (numC l).1 ∧ RdC w' (w.heap.size + 1) (numC l).2 ∧ Kept (fun k => k = w.heap.size + 1) X w' ∧ w'.heap.size = X.heap.size)) := fun X l hX => (cNumber_any _ l X hX).mono fun e w' h => ⟨_, h.1, rfl, h.2⟩
  have HC : Hid (∀ X l, RdC X (w.heap.size + 1) l → Calls Tryd.prog 60 #[.pointer (some ⟨w.heap.size + 1, 0, none⟩)] X fun e w' => e = .returned (.int .i64 (cntC l).1) ∧ RdC w' (w.heap.size + 1) (cntC l).2 ∧ Kept (fun k => k = w.heap.size + 1) X w' ∧ w'.heap.size = X.heap.size) := fun X l hX => cCount_any _ l X hX
  have en : ∀ args w, (callFunc 59 args).run Tryd.prog w = .ok (.enter 59 args) w := enters_of Tryd.func59 (by kernel_rfl) rfl
  obtain ⟨W0, hW0⟩ : ∃ W0, W0 = (w.alloc (.cells #[.int .i64 0, .int .i64 0, .bool false, .slice none 0 0, .slice none 0 0] 34)).alloc (.cells #[.slice va l.length vc] 85) := ⟨_, rfl⟩
  obtain ⟨Z0, Q0, B0, s1, s2⟩ := boxes2 w #[.int .i64 0, .int .i64 0, .bool false, .slice none 0 0, .slice none 0 0] #[.slice va l.length vc] 34 85 W0 hW0
  have R0 : Hid (RdC W0 (w.heap.size + 1) l) := ⟨_, Q0, hr.below B0 (Nat.le_refl _), fun a n c e => by have := hb a n c e; omega, hx⟩
  have ZH : Hid (BX 34 W0 w.heap.size #[.int .i64 0, .int .i64 0, .bool false, .slice none 0 0, .slice none 0 0]) := Z0
  have BH : Hid (Below w.heap.size w W0) := B0
  have LL : Hid (l.length ≤ 1000000) := hl
  obtain ⟨R, hR⟩ : ∃ R, R = parseC l := ⟨_, rfl⟩
  have HP : Hid (R = ⟨(numC l).1, (numC (numC l).2).1, (numC (numC (numC l).2).2).1 == 1, (pairsK 1 (cntC (numC (numC (numC l).2).2).2).1.toNat (cntC (numC (numC (numC l).2).2).2).2).1, (pairsK 0 (cntC (pairsK 1 (cntC (numC (numC (numC l).2).2).2).1.toNat (cntC (numC (numC (numC l).2).2).2).2).2).1.toNat (cntC (pairsK 1 (cntC (numC (numC (numC l).2).2).2).1.toNat (cntC (numC (numC (numC l).2).2).2).2).2).2).1⟩) := hR
  rw [← hR]
  clear hR
  have L1 := numC_len l
  have L2 := numC_len (numC l).2
  have L3 := numC_len (numC (numC l).2).2
  clear Z0 Q0 B0 hr hb hx hl
  go_enter Tryd.func44, Tryd.ntmps44
  go_upto_region 2 with fail
  rw [← hW0]
  clear hW0
  have N1 : Hid (∀ X, RdC X (w.heap.size + 1) l → Calls Tryd.prog 59 #[.pointer (some ⟨w.heap.size + 1, 0, none⟩)] X fun e w' => e = .returned (.int .i64 (numC l).1) ∧ RdC w' (w.heap.size + 1) (numC l).2 ∧ Kept (fun k => k = w.heap.size + 1) X w' ∧ w'.heap.size = X.heap.size) := fun X hX => cNumber_any _ _ X hX
  have N2 : Hid (∀ X, RdC X (w.heap.size + 1) (numC l).2 → Calls Tryd.prog 59 #[.pointer (some ⟨w.heap.size + 1, 0, none⟩)] X fun e w' => e = .returned (.int .i64 (numC (numC l).2).1) ∧ RdC w' (w.heap.size + 1) (numC (numC l).2).2 ∧ Kept (fun k => k = w.heap.size + 1) X w' ∧ w'.heap.size = X.heap.size) := fun X hX => cNumber_any _ _ X hX
  have N3 : Hid (∀ X, RdC X (w.heap.size + 1) (numC (numC l).2).2 → Calls Tryd.prog 59 #[.pointer (some ⟨w.heap.size + 1, 0, none⟩)] X fun e w' => e = .returned (.int .i64 (numC (numC (numC l).2).2).1) ∧ RdC w' (w.heap.size + 1) (numC (numC (numC l).2).2).2 ∧ Kept (fun k => k = w.heap.size + 1) X w' ∧ w'.heap.size = X.heap.size) := fun X hX => cNumber_any _ _ X hX
  have C1 : Hid (∀ X, RdC X (w.heap.size + 1) (numC (numC (numC l).2).2).2 → Calls Tryd.prog 60 #[.pointer (some ⟨w.heap.size + 1, 0, none⟩)] X fun e w' => e = .returned (.int .i64 (cntC (numC (numC (numC l).2).2).2).1) ∧ RdC w' (w.heap.size + 1) (cntC (numC (numC (numC l).2).2).2).2 ∧ Kept (fun k => k = w.heap.size + 1) X w' ∧ w'.heap.size = X.heap.size) := fun X hX => cCount_any _ _ X hX
  have LC : (cntC (numC (numC (numC l).2).2).2).1.toNat ≤ 1000000 ∧ (cntC (numC (numC (numC l).2).2).2).2.length ≤ 1000000 := by
    have h1 := LL.out
    have h4 := numC_len (numC (numC (numC l).2).2).2
    refine ⟨?_, ?_⟩
    · show (min (numC (numC (numC (numC l).2).2).2).1 _).toNat ≤ _
      omega
    · show (numC (numC (numC (numC l).2).2).2).2.length ≤ _
      omega
  generalize numC l = n1 at *
  generalize numC n1.2 = n2 at *
  generalize numC n2.2 = n3 at *
  generalize cntC n3.2 = q1 at *
  obtain ⟨na, r1⟩ := n1
  obtain ⟨nb, r2⟩ := n2
  obtain ⟨nc, r3⟩ := n3
  obtain ⟨c1, l4⟩ := q1
  simp only at LC
  obtain ⟨LC1, LC2⟩ := LC
  clear L1 L2 L3
  go_wp2_with fail
  refine (N1.out _ R0.out).mono ?_
  rintro e w1 ⟨rfl, x1, k1, z1⟩
  have X1 : Hid (RdC w1 (w.heap.size + 1) r1) := x1
  have K1 : Hid (Kept (fun k => k = w.heap.size + 1) W0 w1) := k1
  have S1 : Hid (w1.heap.size = W0.heap.size) := z1
  clear x1 k1 z1
  go_wp2_with fail
  refine (N2.out _ X1.out).mono ?_
  rintro e w2 ⟨rfl, x1, k1, z1⟩
  have X2 : Hid (RdC w2 (w.heap.size + 1) r2) := x1
  have K2 : Hid (Kept (fun k => k = w.heap.size + 1) W0 w2) := K1.out.trans k1
  have S2 : Hid (w2.heap.size = W0.heap.size) := z1.trans S1.out
  clear x1 k1 z1
  go_wp2_with fail
  refine (N3.out _ X2.out).mono ?_
  rintro e w3 ⟨rfl, x1, k1, z1⟩
  have X3 : Hid (RdC w3 (w.heap.size + 1) r3) := x1
  have K3 : Kept (fun k => k = w.heap.size + 1) W0 w3 := K2.out.trans k1
  have z3 : w3.heap.size = w.heap.size + 2 := by have := S2.out; omega
  have S3 : Hid (w3.heap.size = w.heap.size + 2) := z3
  have B3 : Below w.heap.size w w3 := BH.out.trans (K3.below (by omega) fun k e => by omega)
  have I4 : Hid (PsI w (w3.alloc (.cells #[.int .i64 na, .int .i64 nb, .bool (nc == 1), .slice none 0 0, .slice none 0 0] 34)) w.heap.size r3 na nb (nc == 1) (.slice none 0 0) (.slice none 0 0) [] []) :=
    ⟨X3.out.kept ((Kept.refl (fun _ => False) w3).alloc _) (fun _ _ h => h), by have := BX.new 34 w3 #[.int .i64 na, .int .i64 nb, .bool (nc == 1), .slice none 0 0, .slice none 0 0]; rwa [z3] at this, World.ownsRow_nil _ _ _ _, World.ownsRow_nil _ _ _ _, B3.alloc (by omega) _, (ZH.out.kept K3 (by omega)).below (below_alloc _ _) (by omega), by simp; omega⟩
  clear x1 k1 z1 z3 B3 K3
  go_upto_region 3 with fail
  rw [S3.out]
  generalize w3.alloc (.cells #[.int .i64 na, .int .i64 nb, .bool (nc == 1), .slice none 0 0, .slice none 0 0] 34) = w4 at *
  generalize (nc == 1) = fc at *
  clear X1 X2 X3 K1 K2 S1 S2 S3 N1 N2 N3 ZH BH R0
  go_wp2_with fail
  refine (C1.out _ I4.out.rd).mono ?_
  rintro e w5 ⟨rfl, x1, k1, z1⟩
  have I5 : Hid (PsI w w5 w.heap.size l4 na nb fc (.slice none 0 0) (.slice none 0 0) [] []) := I4.out.num x1 k1 z1
  clear x1 k1 z1 I4 C1
  go_wp2_with fail
  go_loopw [13] (fun i wr => ∃ (k : Nat) (vv : Value), k ≤ c1.toNat ∧ i = .int .i64 k ∧ PsI w wr w.heap.size (pairsK 1 k l4).2 na nb fc vv (.slice none 0 0) (pairsK 1 k l4).1 []) (fun i _ => c1.toNat - (intOf i).toNat)
  case atStart => exact ⟨0, _, by omega, rfl, I5.out⟩

  case round =>
    obtain ⟨k, vx, hk, rfl, hi⟩ := hrel
    have PI0 : Hid (PsI w wr w.heap.size (pairsK 1 k l4).2 na nb fc vx (.slice none 0 0) (pairsK 1 k l4).1 []) := hi
    clear hi
    by_cases hlt : k < c1.toNat
    · have hlt' : (k : Int) < c1 := by omega
      have HS : Hid (pairsK 1 (k + 1) l4 = ((pairsK 1 k l4).1 ++ [(IntKind.i64.wrap ((numC (pairsK 1 k l4).2).1 - 1), IntKind.i64.wrap ((numC (numC (pairsK 1 k l4).2).2).1 - 1))], (numC (numC (pairsK 1 k l4).2).2).2)) := rfl
      have hG0 : (pairsK 1 k l4).1.length ≤ k ∧ k ≤ (pairsK 1 k l4).1.length := by have := pairsK_count 1 l4 k; omega
      have HN1 : Hid (∀ X, RdC X (w.heap.size + 1) (pairsK 1 k l4).2 → Calls Tryd.prog 59 #[.pointer (some ⟨w.heap.size + 1, 0, none⟩)] X fun e w' => ∃ v, e = .returned v ∧ (v = .int .i64 (numC (pairsK 1 k l4).2).1 ∧ RdC w' (w.heap.size + 1) (numC (pairsK 1 k l4).2).2 ∧ Kept (fun k => k = w.heap.size + 1) X w' ∧ w'.heap.size = X.heap.size)) := fun X hX => HN.out X _ hX
      have HN2 : Hid (∀ X, RdC X (w.heap.size + 1) (numC (pairsK 1 k l4).2).2 → Calls Tryd.prog 59 #[.pointer (some ⟨w.heap.size + 1, 0, none⟩)] X fun e w' => ∃ v, e = .returned v ∧ (v = .int .i64 (numC (numC (pairsK 1 k l4).2).2).1 ∧ RdC w' (w.heap.size + 1) (numC (numC (pairsK 1 k l4).2).2).2 ∧ Kept (fun k => k = w.heap.size + 1) X w' ∧ w'.heap.size = X.heap.size)) := fun X hX => HN.out X _ hX
      generalize pairsK 1 k l4 = G at *
      obtain ⟨g1, g2⟩ := G
      simp only at hG0
      generalize numC g2 = m1 at *
      obtain ⟨m1, t1⟩ := m1
      generalize numC t1 = m2 at *
      obtain ⟨m2, t2⟩ := m2
      obtain ⟨xa, xc, rfl⟩ := (RowK.own encM_len PI0.out.vals : MlR wr vx g1).shape
      have PD : Hid (PsI w wr.drew w.heap.size g2 na nb fc (.slice xa g1.length xc) (.slice none 0 0) g1 []) := PI0.out.drew
      clear PI0
      go_upto_region 5 with fail
      refine region_lastF (S := fun V => V.cell? ⟨w.heap.size + 2, 3, none⟩ = some (.slice xa g1.length xc)) (by kernel_rfl) (by kernel_rfl) (by kernel_rfl) (by kernel_rfl) ?_
      simp only [List.pop_toArray, List.dropLast_cons_cons, List.dropLast_singleton, List.size_toArray, List.length_cons, List.length_nil, Nat.reduceAdd]
      refine takeH (i := 0) (v := .pointer (some ⟨w.heap.size + 2, 3, none⟩)) (d := 15) rfl rfl (by kernel_rfl) (by kernel_rfl) (by kernel_rfl) (fun _ _ _ h => h) (by rfl) (fun V hV => by have v1 := hV; go_simp) PD.out.box.all5.2.2.2.1 ?_
      simp only [Act.put, List.setIfInBounds_toArray, List.set_cons_zero, List.set_cons_succ]
      refine takeH (i := 1) (v := .slice xa g1.length xc) (d := 16) rfl rfl (by kernel_rfl) (by kernel_rfl) (by kernel_rfl) (fun _ _ _ h => h) (by rfl) (fun V hV => by have v1 := hV; go_simp) PD.out.box.all5.2.2.2.1 ?_
      simp only [Act.put, List.setIfInBounds_toArray, List.set_cons_zero, List.set_cons_succ]
      refine oneH (i := 2) rfl (by kernel_rfl) rfl (call_gets (d := 17) (f := 59) (xs := #[.tmp 3]) (ats := #[85]) rfl rfl en (vs := #[.pointer (some ⟨w.heap.size + 1, 0, none⟩)]) (by simp [Act.eval]) (HN1.out wr.drew PD.out.rd) ?_)
      rintro _ wa ⟨rfl, x1, k1, z1⟩
      have PA : Hid (PsI w wa w.heap.size t1 na nb fc (.slice xa g1.length xc) (.slice none 0 0) g1 []) := PD.out.num x1 k1 z1
      clear x1 k1 z1
      refine ⟨PA.out.box.all5.2.2.2.1, ?_⟩
      simp only [Act.put, List.setIfInBounds_toArray, List.set_cons_zero, List.set_cons_succ]
      refine takeH (i := 3) (v := .int .i64 (IntKind.i64.wrap (m1 - 1))) (d := 18) rfl rfl (by kernel_rfl) (by kernel_rfl) (by kernel_rfl) (fun _ _ _ h => h) (by rfl) (fun V hV => by have v1 := hV; go_simp) PA.out.box.all5.2.2.2.1 ?_
      simp only [Act.put, List.setIfInBounds_toArray, List.set_cons_zero, List.set_cons_succ]
      refine oneH (i := 4) rfl (by kernel_rfl) rfl (call_gets (d := 19) (f := 59) (xs := #[.tmp 3]) (ats := #[85]) rfl rfl en (vs := #[.pointer (some ⟨w.heap.size + 1, 0, none⟩)]) (by simp [Act.eval]) (HN2.out wa PA.out.rd) ?_)
      rintro _ wb ⟨rfl, x1, k1, z1⟩
      have PB : Hid (PsI w wb w.heap.size t2 na nb fc (.slice xa g1.length xc) (.slice none 0 0) g1 []) := PA.out.num x1 k1 z1
      clear x1 k1 z1
      refine ⟨PB.out.box.all5.2.2.2.1, ?_⟩
      simp only [Act.put, List.setIfInBounds_toArray, List.set_cons_zero, List.set_cons_succ]
      refine takeH (i := 5) (v := .int .i64 (IntKind.i64.wrap (m2 - 1))) (d := 20) rfl rfl (by kernel_rfl) (by kernel_rfl) (by kernel_rfl) (fun _ _ _ h => h) (by rfl) (fun V hV => by have v1 := hV; go_simp) PB.out.box.all5.2.2.2.1 ?_
      simp only [Act.put, List.setIfInBounds_toArray, List.set_cons_zero, List.set_cons_succ]
      refine takeH (i := 6) (v := .agg #[.int .i64 (IntKind.i64.wrap (m1 - 1)), .int .i64 (IntKind.i64.wrap (m2 - 1))]) (d := 21) rfl rfl (by kernel_rfl) (by kernel_rfl) (by kernel_rfl) (fun _ _ _ h => h) (by rfl) (fun V hV => by have v1 := hV; go_simp) PB.out.box.all5.2.2.2.1 ?_
      simp only [Act.put, List.setIfInBounds_toArray, List.set_cons_zero, List.set_cons_succ]
      have PC : Hid (PsI w (wb.alloc (.cells #[.int .i64 (IntKind.i64.wrap (m1 - 1)), .int .i64 (IntKind.i64.wrap (m2 - 1))] 73)) w.heap.size t2 na nb fc (.slice xa g1.length xc) (.slice none 0 0) g1 []) := PB.out.alloc _
      obtain ⟨g, gc, wd, hrun, hown, hgr⟩ := run_append_newK kV (w := wb.alloc (.cells #[.int .i64 (IntKind.i64.wrap (m1 - 1)), .int .i64 (IntKind.i64.wrap (m2 - 1))] 73)) 31 (w.heap.size + 3) (.slice xa g1.length xc) g1 PC.out.vals wb.heap.size (IntKind.i64.wrap (m1 - 1), IntKind.i64.wrap (m2 - 1)) #[.int .i64 (IntKind.i64.wrap (m1 - 1)), .int .i64 (IntKind.i64.wrap (m2 - 1))] rfl (0, 0) (heap_alloc_new _ _) (by simp only [kV]; omega) (by unfold maxLen; omega) PC.out.size
      obtain ⟨bd, PF0⟩ := PC.out.setV hgr hown
      have PF : Hid (PsI w (wd.setCell ⟨w.heap.size + 2, 3, none⟩ (.slice (some ⟨g, 0, none⟩) (g1.length + 1) gc)) w.heap.size t2 na nb fc (.slice (some ⟨g, 0, none⟩) (g1.length + 1) gc) (.slice none 0 0) (g1 ++ [(IntKind.i64.wrap (m1 - 1), IntKind.i64.wrap (m2 - 1))]) []) := PF0
      have cd := bd.all5.2.2.2.1
      have fd := bd.frozen 3
      clear hgr hown bd PF0
      refine oneH (i := 7) rfl (by kernel_rfl) rfl (op_run (d := 22) (v' := .slice (some ⟨wb.heap.size, 0, none⟩) 1 1) (w' := wb.alloc (.cells #[.int .i64 (IntKind.i64.wrap (m1 - 1)), .int .i64 (IntKind.i64.wrap (m2 - 1))] 73)) rfl (by go_simp) ⟨PC.out.box.all5.2.2.2.1, ?_⟩)
      simp only [Act.put, List.setIfInBounds_toArray, List.set_cons_zero, List.set_cons_succ]
      refine oneH (i := 8) rfl (by kernel_rfl) rfl (call_append (d := 23) (s := .tmp 16) (x := .tmp 22) (t := 31) rfl rfl (v := .slice xa g1.length xc) (v2 := .slice (some ⟨wb.heap.size, 0, none⟩) 1 1) (by simp [Act.eval]) (by simp [Act.eval]) hrun ⟨cd, ?_⟩)
      simp only [Act.put, List.setIfInBounds_toArray, List.set_cons_zero, List.set_cons_succ]
      refine takeH (i := 9) (v := .pointer (some ⟨w.heap.size + 2, 3, none⟩)) (d := 24) rfl rfl (by kernel_rfl) (by kernel_rfl) (by kernel_rfl) (fun _ _ _ h => h) (by rfl) (fun V hV => by have v1 := hV; go_simp) cd ?_
      simp only [Act.put, List.setIfInBounds_toArray, List.set_cons_zero, List.set_cons_succ]
      refine wpAnyH_done (by kernel_rfl) ?_ _
      clear hrun PA PB PC PD HN1 HN2
      show Oper.wp _ _ _ _ _ _
      go_wp2_with fail
      go_roundw
      case rel => exact ⟨k + 1, _, by omega, by go_num, by rw [HS.out]; exact PF.out⟩
      case measure => simp [intOf]; omega
    · have hlt' : ¬ (k : Int) < c1 := by omega
      have e0 : k = c1.toNat := by omega
      have PE0 : Hid (PsI w wr w.heap.size (pairsK 1 c1.toNat l4).2 na nb fc vx (.slice none 0 0) (pairsK 1 c1.toNat l4).1 []) := by rw [← e0]; exact PI0.out
      have C2 : Hid (∀ X, RdC X (w.heap.size + 1) (pairsK 1 c1.toNat l4).2 → Calls Tryd.prog 60 #[.pointer (some ⟨w.heap.size + 1, 0, none⟩)] X fun e w' => e = .returned (.int .i64 (cntC (pairsK 1 c1.toNat l4).2).1) ∧ RdC w' (w.heap.size + 1) (cntC (pairsK 1 c1.toNat l4).2).2 ∧ Kept (fun k => k = w.heap.size + 1) X w' ∧ w'.heap.size = X.heap.size) := fun X hX => cCount_any _ _ X hX
      have LD : (cntC (pairsK 1 c1.toNat l4).2).1.toNat ≤ 1000000 := by
        have h4 := numC_len (pairsK 1 c1.toNat l4).2
        have h5 := pairsK_len 1 l4 c1.toNat
        show (min (numC (pairsK 1 c1.toNat l4).2).1 _).toNat ≤ _
        omega
      clear PI0 e0 hk hlt
      go_upto_region 7 with fail
      clear hlt'
      generalize pairsK 1 c1.toNat l4 = G at *
      obtain ⟨V, l5⟩ := G
      simp only at LD
      generalize cntC l5 = q2 at *
      obtain ⟨c2, l6⟩ := q2
      simp only at LD
      obtain ⟨ua, uc, rfl⟩ := (RowK.own encM_len PE0.out.vals : MlR wr vx V).shape
      go_wp2_with fail
      refine (C2.out _ PE0.out.rd).mono ?_
      rintro e w7 ⟨rfl, x1, k1, z1⟩
      have I7 : Hid (PsI w w7 w.heap.size l6 na nb fc (.slice ua V.length uc) (.slice none 0 0) V []) := PE0.out.num x1 k1 z1
      clear x1 k1 z1 PE0 C2 I5
      go_wp2_with fail
      go_loopw [27] (fun i wr => ∃ (k : Nat) (vx : Value), k ≤ c2.toNat ∧ i = .int .i64 k ∧ PsI w wr w.heap.size (pairsK 0 k l6).2 na nb fc (.slice ua V.length uc) vx V (pairsK 0 k l6).1) (fun i _ => c2.toNat - (intOf i).toNat)
      case atStart => exact ⟨0, _, by omega, rfl, I7.out⟩
      case round =>
        obtain ⟨k, vx, hk, rfl, hi⟩ := hrel
        have PI0 : Hid (PsI w wr w.heap.size (pairsK 0 k l6).2 na nb fc (.slice ua V.length uc) vx V (pairsK 0 k l6).1) := hi
        clear hi
        by_cases hlt : k < c2.toNat
        · have hlt' : (k : Int) < c2 := by omega
          have HS : Hid (pairsK 0 (k + 1) l6 = ((pairsK 0 k l6).1 ++ [((numC (pairsK 0 k l6).2).1, (numC (numC (pairsK 0 k l6).2).2).1)], (numC (numC (pairsK 0 k l6).2).2).2)) := pairsK_zero k l6
          have hG0 : (pairsK 0 k l6).1.length ≤ k ∧ k ≤ (pairsK 0 k l6).1.length := by have := pairsK_count 0 l6 k; omega
          have HN1 : Hid (∀ X, RdC X (w.heap.size + 1) (pairsK 0 k l6).2 → Calls Tryd.prog 59 #[.pointer (some ⟨w.heap.size + 1, 0, none⟩)] X fun e w' => ∃ v, e = .returned v ∧ (v = .int .i64 (numC (pairsK 0 k l6).2).1 ∧ RdC w' (w.heap.size + 1) (numC (pairsK 0 k l6).2).2 ∧ Kept (fun k => k = w.heap.size + 1) X w' ∧ w'.heap.size = X.heap.size)) := fun X hX => HN.out X _ hX
          have HN2 : Hid (∀ X, RdC X (w.heap.size + 1) (numC (pairsK 0 k l6).2).2 → Calls Tryd.prog 59 #[.pointer (some ⟨w.heap.size + 1, 0, none⟩)] X fun e w' => ∃ v, e = .returned v ∧ (v = .int .i64 (numC (numC (pairsK 0 k l6).2).2).1 ∧ RdC w' (w.heap.size + 1) (numC (numC (pairsK 0 k l6).2).2).2 ∧ Kept (fun k => k = w.heap.size + 1) X w' ∧ w'.heap.size = X.heap.size)) := fun X hX => HN.out X _ hX
          generalize pairsK 0 k l6 = G at *
          obtain ⟨g1, g2⟩ := G
          simp only at hG0
          generalize numC g2 = m1 at *
          obtain ⟨m1, t1⟩ := m1
          generalize numC t1 = m2 at *
          obtain ⟨m2, t2⟩ := m2
          obtain ⟨xa, xc, rfl⟩ := (RowK.own encM_len PI0.out.mail : MlR wr vx g1).shape
          have PD : Hid (PsI w wr.drew w.heap.size g2 na nb fc (.slice ua V.length uc) (.slice xa g1.length xc) V g1) := PI0.out.drew
          clear PI0
          go_upto_region 9 with fail
          refine region_lastF (S := fun V => V.cell? ⟨w.heap.size + 2, 4, none⟩ = some (.slice xa g1.length xc)) (by kernel_rfl) (by kernel_rfl) (by kernel_rfl) (by kernel_rfl) ?_
          simp only [List.pop_toArray, List.dropLast_cons_cons, List.dropLast_singleton, List.size_toArray, List.length_cons, List.length_nil, Nat.reduceAdd]
          refine takeH (i := 0) (v := .pointer (some ⟨w.heap.size + 2, 4, none⟩)) (d := 29) rfl rfl (by kernel_rfl) (by kernel_rfl) (by kernel_rfl) (fun _ _ _ h => h) (by rfl) (fun V hV => by have v1 := hV; go_simp) PD.out.box.all5.2.2.2.2 ?_
          simp only [Act.put, List.setIfInBounds_toArray, List.set_cons_zero, List.set_cons_succ]
          refine takeH (i := 1) (v := .slice xa g1.length xc) (d := 30) rfl rfl (by kernel_rfl) (by kernel_rfl) (by kernel_rfl) (fun _ _ _ h => h) (by rfl) (fun V hV => by have v1 := hV; go_simp) PD.out.box.all5.2.2.2.2 ?_
          simp only [Act.put, List.setIfInBounds_toArray, List.set_cons_zero, List.set_cons_succ]
          refine oneH (i := 2) rfl (by kernel_rfl) rfl (call_gets (d := 31) (f := 59) (xs := #[.tmp 3]) (ats := #[85]) rfl rfl en (vs := #[.pointer (some ⟨w.heap.size + 1, 0, none⟩)]) (by simp [Act.eval]) (HN1.out wr.drew PD.out.rd) ?_)
          rintro _ wa ⟨rfl, x1, k1, z1⟩
          have PA : Hid (PsI w wa w.heap.size t1 na nb fc (.slice ua V.length uc) (.slice xa g1.length xc) V g1) := PD.out.num x1 k1 z1
          clear x1 k1 z1
          refine ⟨PA.out.box.all5.2.2.2.2, ?_⟩
          simp only [Act.put, List.setIfInBounds_toArray, List.set_cons_zero, List.set_cons_succ]
          refine oneH (i := 3) rfl (by kernel_rfl) rfl (call_gets (d := 32) (f := 59) (xs := #[.tmp 3]) (ats := #[85]) rfl rfl en (vs := #[.pointer (some ⟨w.heap.size + 1, 0, none⟩)]) (by simp [Act.eval]) (HN2.out wa PA.out.rd) ?_)
          rintro _ wb ⟨rfl, x1, k1, z1⟩
          have PB : Hid (PsI w wb w.heap.size t2 na nb fc (.slice ua V.length uc) (.slice xa g1.length xc) V g1) := PA.out.num x1 k1 z1
          clear x1 k1 z1
          refine ⟨PB.out.box.all5.2.2.2.2, ?_⟩
          simp only [Act.put, List.setIfInBounds_toArray, List.set_cons_zero, List.set_cons_succ]
          refine takeH (i := 4) (v := .agg #[.int .i64 (m1), .int .i64 (m2)]) (d := 33) rfl rfl (by kernel_rfl) (by kernel_rfl) (by kernel_rfl) (fun _ _ _ h => h) (by rfl) (fun V hV => by have v1 := hV; go_simp) PB.out.box.all5.2.2.2.2 ?_
          simp only [Act.put, List.setIfInBounds_toArray, List.set_cons_zero, List.set_cons_succ]
          have PC : Hid (PsI w (wb.alloc (.cells #[.int .i64 (m1), .int .i64 (m2)] 75)) w.heap.size t2 na nb fc (.slice ua V.length uc) (.slice xa g1.length xc) V g1) := PB.out.alloc _
          obtain ⟨g, gc, wd, hrun, hown, hgr⟩ := run_append_newK kM (w := wb.alloc (.cells #[.int .i64 (m1), .int .i64 (m2)] 75)) 32 (w.heap.size + 3) (.slice xa g1.length xc) g1 PC.out.mail wb.heap.size (m1, m2) #[.int .i64 (m1), .int .i64 (m2)] rfl (0, 0) (heap_alloc_new _ _) (by simp only [kM]; omega) (by unfold maxLen; omega) PC.out.size
          obtain ⟨bd, PF0⟩ := PC.out.setM hgr hown
          have PF : Hid (PsI w (wd.setCell ⟨w.heap.size + 2, 4, none⟩ (.slice (some ⟨g, 0, none⟩) (g1.length + 1) gc)) w.heap.size t2 na nb fc (.slice ua V.length uc) (.slice (some ⟨g, 0, none⟩) (g1.length + 1) gc) V (g1 ++ [(m1, m2)])) := PF0
          have cd := bd.all5.2.2.2.2
          have fd := bd.frozen 4
          clear hgr hown bd PF0
          refine oneH (i := 5) rfl (by kernel_rfl) rfl (op_run (d := 34) (v' := .slice (some ⟨wb.heap.size, 0, none⟩) 1 1) (w' := wb.alloc (.cells #[.int .i64 (m1), .int .i64 (m2)] 75)) rfl (by go_simp) ⟨PC.out.box.all5.2.2.2.2, ?_⟩)
          simp only [Act.put, List.setIfInBounds_toArray, List.set_cons_zero, List.set_cons_succ]
          refine oneH (i := 6) rfl (by kernel_rfl) rfl (call_append (d := 35) (s := .tmp 30) (x := .tmp 34) (t := 32) rfl rfl (v := .slice xa g1.length xc) (v2 := .slice (some ⟨wb.heap.size, 0, none⟩) 1 1) (by simp [Act.eval]) (by simp [Act.eval]) hrun ⟨cd, ?_⟩)
          simp only [Act.put, List.setIfInBounds_toArray, List.set_cons_zero, List.set_cons_succ]
          refine takeH (i := 7) (v := .pointer (some ⟨w.heap.size + 2, 4, none⟩)) (d := 36) rfl rfl (by kernel_rfl) (by kernel_rfl) (by kernel_rfl) (fun _ _ _ h => h) (by rfl) (fun V hV => by have v1 := hV; go_simp) cd ?_
          simp only [Act.put, List.setIfInBounds_toArray, List.set_cons_zero, List.set_cons_succ]
          refine wpAnyH_done (by kernel_rfl) ?_ _
          clear hrun PA PB PC PD HN1 HN2
          show Oper.wp _ _ _ _ _ _
          go_wp2_with fail
          go_roundw
          case rel => exact ⟨k + 1, _, by omega, by go_num, by rw [HS.out]; exact PF.out⟩
          case measure => simp [intOf]; omega
        · have hlt' : ¬ (k : Int) < c2 := by omega
          have e0 : k = c2.toNat := by omega
          have PE : Hid (PsI w wr w.heap.size (pairsK 0 c2.toNat l6).2 na nb fc (.slice ua V.length uc) vx V (pairsK 0 c2.toNat l6).1) := by rw [← e0]; exact PI0.out
          clear PI0 e0 hk hlt
          go_upto_region 11 with fail
          clear hlt'
          generalize pairsK 0 c2.toNat l6 = G at *
          obtain ⟨M, l7⟩ := G
          obtain ⟨ya, yc, rfl⟩ := (RowK.own encM_len PE.out.mail : MlR wr vx M).shape
          have RX : Hid (BX 34 (putS wr w.heap.size (.int .i64 na) (.int .i64 nb) (.bool fc) (.slice ua V.length uc) (.slice ya M.length yc)) w.heap.size #[.int .i64 na, .int .i64 nb, .bool fc, .slice ua V.length uc, .slice ya M.length yc]) := PE.out.zero.putS
          have VE : Hid ((putS wr w.heap.size (.int .i64 na) (.int .i64 nb) (.bool fc) (.slice ua V.length uc) (.slice ya M.length yc)).ownsRow w.heap.size 73 2 (.slice ua V.length uc) V.length (V.flatMap encM)) := own_lower (own_off PE.out.vals PE.out.zero (by decide) (kept_putS wr w.heap.size _ _ _ _ _)) (by omega)
          have ME : Hid ((putS wr w.heap.size (.int .i64 na) (.int .i64 nb) (.bool fc) (.slice ua V.length uc) (.slice ya M.length yc)).ownsRow w.heap.size 75 2 (.slice ya M.length yc) M.length (M.flatMap encM)) := own_lower (own_off PE.out.mail PE.out.zero (by decide) (kept_putS wr w.heap.size _ _ _ _ _)) (by omega)
          have BE : Hid (Below w.heap.size w (putS wr w.heap.size (.int .i64 na) (.int .i64 nb) (.bool fc) (.slice ua V.length uc) (.slice ya M.length yc))) := ((((PE.out.low.setCell (by simp) _).setCell (by simp) _).setCell (by simp) _).setCell (by simp) _).setCell (by simp) _
          obtain ⟨d0, d1, d2, d3, d4⟩ := PE.out.box.all5
          obtain ⟨e0, e1, e2, e3, e4⟩ := PE.out.zero.all5
          obtain ⟨f0, f1, f2, f3, f4⟩ := PE.out.zero.all5f
          go_wp2_with fail
          obtain ⟨r0, r1, r2, r3, r4⟩ := RX.out.all5
          unfold putS at r0 r1 r2 r3 r4
          refine bodyPost_ret (v := .agg #[.int .i64 na, .int .i64 nb, .bool fc, .slice ua V.length uc, .slice ya M.length yc]) (by simp [results, Tryd.results44, go_sem, r0, r1, r2, r3, r4]) rfl ?_
          rw [HP.out]
          exact ⟨_, _, rfl, VE.out, ME.out, BE.out⟩
end Go.Proofs.YthakibcfmbkpkaaDoor

namespace Go.Proofs.YthakibcfmbkpkaaDoor
set_option maxRecDepth 100000
open Go.ChangeShapes Go.WideShapes Go.ChangeAt Go.RowKit

/-- What an append of bytes that read comes to. -/
theorem run_append_byt {w : World} (ty : TypeId) (base : Nat) (v : Value) (xs : List Int) (hown : w.ownsRow base 5 1 v xs.length (xs.map (Value.int .u8)))
    (v2 : Value) (ys : List Int) (hr : Reads .u8 w v2 ys) (hlen : xs.length + ys.length ≤ 140737488355328) (hbase : base ≤ w.heap.size) :
    ∃ v' w', (Builtin.append_ #[44, 44] ty #[v, v2]).run Tryd.prog w = .ok v' w' ∧ w'.ownsRow base 5 1 v' (xs ++ ys).length ((xs ++ ys).map (Value.int .u8)) ∧ w.grownBy w' v.ownBlock := by
  obtain ⟨i0, hi, hz0, hz1, hz2⟩ := info_parts Tryd.info5
  obtain ⟨ad, cap, rfl, hc, hm, ha, hcell⟩ := hr
  cases ad with
  | none =>
    have hcap := ha rfl
    have : ys = [] := List.eq_nil_of_length_eq_zero (by omega)
    subst this
    subst hcap
    have h := run_append_owned_none (P := Tryd.prog) (w := w) base 44 ty 5 i0 1 Tryd.underlying44 hi v _ _ hown
    exact ⟨v, w, h, by simpa using hown, World.grownBy.refl _ _⟩
  | some p =>
    obtain ⟨v', w', h1, h2, h3, _⟩ := run_append_own w base 44 ty 5 i0 (.int .u8 0) 1 1 Tryd.underlying44 hi hz0 hz1 hz2 rfl (by decide) v _ _ hown p ys.length cap (ys.map (Value.int .u8)) (by simp)
      (fun j u hj => by
        obtain ⟨hj1, rfl⟩ := getD_map hj
        exact hcell p rfl j hj1) (bytes_oneCell _) (by unfold maxLen; omega) (by omega) hbase
    exact ⟨v', w', h1, by simpa using h2, h3⟩
end Go.Proofs.YthakibcfmbkpkaaDoor

namespace Go.Proofs.YthakibcfmbkpkaaDoor
set_option maxRecDepth 100000
open Go.ChangeShapes Go.WideShapes Go.ChangeAt Go.RowKit

theorem own_ge {w : World} {base n size g : Nat} {e : TypeId} {v : Value} {xs : List Value} (h : w.ownsRow base e size v n xs) (hg : v.ownBlock = some g) : base ≤ g ∧ g < w.heap.size := h.lt g hg
/-- Two slices lie in other blocks. -/
def Apt (v u : Value) : Prop := ∀ g, v.ownBlock = some g → u.ownBlock = some g → False
theorem Apt.symm {v u : Value} (h : Apt v u) : Apt u v := fun g h1 h2 => h g h2 h1
theorem Apt.or {v u : Value} (h : Apt v u) : v.ownBlock = none ∨ v.ownBlock ≠ u.ownBlock := by
  cases hv : v.ownBlock with
  | none => exact .inl rfl
  | some g => exact .inr fun e => h g hv e.symm
theorem Apt.nil (u : Value) : Apt (.slice none 0 0) u := fun g h _ => by cases h
/-- A row that lay apart from one that has grown. -/
theorem Apt.grown {w : World} {v u : Value} {g n c : Nat} {base : Nat} {e : TypeId} {size m : Nat} {xs : List Value} (h : Apt v u) (hl : v.ownBlock = some g ∨ g = w.heap.size) (hu : w.ownsRow base e size u m xs) : Apt (.slice (some ⟨g, 0, none⟩) n c) u := by
  intro q h1 h2
  injection h1 with h1
  have h1' : g = q := h1
  subst h1'
  rcases hl with h3 | h3
  · exact h g h3 h2
  · have := (own_ge hu h2).2
    omega
end Go.Proofs.YthakibcfmbkpkaaDoor

namespace Go.Proofs.YthakibcfmbkpkaaDoor
set_option maxRecDepth 100000
open Go.ChangeShapes Go.WideShapes Go.ChangeAt Go.RowKit

/-- The payload in its box. -/
structure PyI (q : Nat) (L : List Int) (pv : Value) (w : World) : Prop where
  x : BX 44 w q #[pv]
  o : w.ownsRow q 5 1 pv L.length (L.map (Value.int .u8))
theorem PyI.shape {q : Nat} {L : List Int} {pv : Value} {w : World} (h : PyI q L pv w) : ∃ a n c, pv = .slice a n c := by
  rcases h.o.2 with ⟨hv, h0⟩ | ⟨g, cap, cur, hv, _⟩
  · exact ⟨none, 0, 0, hv⟩
  · exact ⟨_, _, _, hv⟩
theorem PyI.below {q : Nat} {L : List Int} {pv : Value} {w w' : World} (h : PyI q L pv w) (hb : Below w.heap.size w w') : PyI q L pv w' := ⟨h.x.below hb h.x.lt, own_below h.o hb (Nat.le_refl _)⟩
theorem putLen_le (n : Int) : (put n).length ≤ 10 := by have := put_len n; omega

set_option maxHeartbeats 2000000 in
set_option maxRecDepth 100000 in
theorem sPut_any (q : Nat) (pv : Value) (L : List Int) (av : Value) (ns : List Int) (w : World) (h : PyI q L pv w) (ha : w.ownsRow q 3 1 av ns.length (ns.flatMap encI)) (hn : ∀ n ∈ ns, 0 ≤ n ∧ n ≤ 9223372036854775807) (hl : L.length + 10 * ns.length ≤ 1000000) :
    Calls Tryd.prog 62 #[av, .pointer (some ⟨q, 0, none⟩)] w fun e w' => e = .returned (.tuple #[]) ∧ (∃ pv', PyI q (L ++ bytN ns) pv' w') ∧ Below q w w' := by
  have H0 : Hid (PyI q L pv w) := h
  have HA : Hid (w.ownsRow q 3 1 av ns.length (ns.flatMap encI)) := ha
  have HN : Hid (∀ n ∈ ns, 0 ≤ n ∧ n ≤ 9223372036854775807) := hn
  have HZ : Hid (L ++ bytN (ns.take 0) = L) := by show _ = _; simp [bytN]
  obtain ⟨aa, ac, rfl⟩ := (RowK.own encI_len ha : InR w av ns).shape
  have hq := h.x.lt
  clear h ha hn
  go_enter Tryd.func62, Tryd.ntmps62
  go_wp2_with fail
  go_loopw [7] (fun i wr => ∃ (k : Nat) (pv : Value), k ≤ ns.length ∧ i = .int .i64 k ∧ PyI q (L ++ bytN (ns.take k)) pv wr ∧ wr.ownsRow q 3 1 (.slice aa ns.length ac) ns.length (ns.flatMap encI) ∧ Below q w wr) (fun i _ => ns.length - (intOf i).toNat)
  case atStart => exact ⟨0, pv, by omega, rfl, by rw [HZ.out]; exact H0.out, HA.out, Below.refl _ _⟩
  case round =>
    clear H0 HA HZ
    obtain ⟨k, pv, hk, rfl, hpy, hoa, hbel⟩ := hrel
    have PY : Hid (PyI q (L ++ bytN (ns.take k)) pv wr) := hpy
    have OA : Hid (wr.ownsRow q 3 1 (.slice aa ns.length ac) ns.length (ns.flatMap encI)) := hoa
    have AB : Hid (Below q w wr) := hbel
    obtain ⟨pa, pn, pc, rfl⟩ := hpy.shape
    have hsr := hbel.size
    have hqr := hpy.x.lt
    clear hpy hoa hbel
    by_cases hlt : k < ns.length
    · obtain ⟨b, off, cap', e1, _, _, lt, hv⟩ := InR.at (RowK.own encI_len OA.out : InR wr (.slice aa ns.length ac) ns) (by omega)
      injection e1 with e1 _ e3
      subst e1 e3
      obtain ⟨x, hx⟩ := getX hlt
      have c1 := hv k x hx
      obtain ⟨hx0, hx1⟩ := HN.out x (List.mem_of_getElem? hx)
      have HT : Hid (L ++ bytN (ns.take (k + 1)) = (L ++ bytN (ns.take k)) ++ put x) := by show _ = _; rw [take_snoc hx, bytN_app, bytN_one, List.append_assoc]
      have hll : (L ++ bytN (ns.take k)).length ≤ 1000000 := by
        have h1 := bytN_len (ns.take k)
        have h2 : (ns.take k).length ≤ ns.length := by rw [List.length_take]; omega
        rw [List.length_append]
        omega
      have hpl := putLen_le x
      have p0 : (0 : Int) ≤ (k : Int) := by omega
      have p1 : (k : Int) < (ns.length : Int) := by omega
      have wx : IntKind.u64.wrap x = x := by rw [IntKind.wrap_u64]; omega
      have CP : Hid (∀ X, Calls Tryd.prog 63 #[.int .u64 x] X fun e w' => ∃ v, e = .returned v ∧ (w'.ownsRow X.heap.size 5 1 v (put x).length ((put x).map (Value.int .u8)) ∧ Below X.heap.size X w')) := fun X => put_any x X hx0 (by omega)
      have ep : ∀ args w, (callFunc 63 args).run Tryd.prog w = .ok (.enter 63 args) w := enters_of Tryd.func63 (by kernel_rfl) rfl
      have HS : Hid (∀ V, Below wr.heap.size wr V → (V.cell? ⟨q, 0, none⟩ = some (.slice pa pn pc))) := fun V hV => ((PY.out.below hV).x).cell 0
      generalize L ++ bytN (ns.take k) = M at *
      clear hv hx
      go_upto_region 3 with fail
      clear c1
      have bd : Below wr.heap.size wr wr.drew := (Below.refl _ _).drew
      have HS0 : Hid (wr.drew.cell? ⟨q, 0, none⟩ = some (.slice pa pn pc)) := HS.out _ bd
      refine region_lastF (S := fun V => (V.cell? ⟨q, 0, none⟩ = some (.slice pa pn pc))) (by kernel_rfl) rfl (by kernel_rfl) (by kernel_rfl) ?_
      simp only [List.pop_toArray, List.dropLast_cons_cons, List.dropLast_singleton, List.size_toArray, List.length_cons, List.length_nil, Nat.reduceAdd]
      refine takeH (i := 0) (v := .slice pa pn pc) (d := 11) rfl rfl (by kernel_rfl) (by kernel_rfl) (by kernel_rfl) (fun _ _ _ h => h) (by rfl) (fun V hV => by have v1 := hV; go_simp) HS0.out ?_
      simp only [Act.put, List.setIfInBounds_toArray, List.set_cons_zero, List.set_cons_succ]
      refine takeH (i := 1) (v := .int .i64 x) (d := 12) rfl rfl (by kernel_rfl) (by kernel_rfl) (by kernel_rfl) (fun _ _ _ h => h) (by rfl) (fun V hV => by have v1 := hV; go_simp) HS0.out ?_
      simp only [Act.put, List.setIfInBounds_toArray, List.set_cons_zero, List.set_cons_succ]
      refine takeH (i := 2) (v := .int .u64 x) (d := 13) rfl rfl (by kernel_rfl) (by kernel_rfl) (by kernel_rfl) (fun _ _ _ h => h) (by rfl) (fun V hV => by have v1 := hV; go_simp) HS0.out ?_
      simp only [Act.put, List.setIfInBounds_toArray, List.set_cons_zero, List.set_cons_succ]
      refine oneH (i := 3) rfl (by kernel_rfl) rfl (call_gets (d := 14) (f := 63) (xs := #[.tmp 13]) (ats := #[89]) rfl rfl ep (vs := #[.int .u64 x]) (by simp [Act.eval]) (CP.out _) ?_)
      rintro vr w3 ⟨ho3, hb3⟩
      have b3 : Below wr.heap.size wr w3 := bd.trans hb3
      have HS3 : Hid (w3.cell? ⟨q, 0, none⟩ = some (.slice pa pn pc)) := HS.out _ b3
      refine ⟨HS3.out, ?_⟩
      simp only [Act.put, List.setIfInBounds_toArray, List.set_cons_zero, List.set_cons_succ]
      have py3 := PY.out.below b3
      obtain ⟨v4, w4, hrun4, hown4, hg4⟩ := run_append_byt (w := w3) 44 q (.slice pa pn pc) M py3.o vr (put x) (reads_own ho3) (by omega) (by have := b3.size; omega)
      have x4 := py3.x.grown py3.o (by decide) hg4
      have HS4 : Hid (w4.cell? ⟨q, 0, none⟩ = some (.slice pa pn pc)) := x4.cell 0
      refine oneH (i := 4) rfl (by kernel_rfl) rfl (call_append (d := 15) (s := .tmp 11) (x := .tmp 14) (t := 44) rfl rfl rfl rfl hrun4 ⟨HS4.out, ?_⟩)
      simp only [Act.put, List.setIfInBounds_toArray, List.set_cons_zero, List.set_cons_succ]
      obtain ⟨ya, yn, yc, rfl⟩ : ∃ a n c, v4 = .slice a n c := by
        rcases hown4.2 with ⟨hv, h0⟩ | ⟨g, cap, cur, hv, _⟩
        · exact ⟨none, 0, 0, hv⟩
        · exact ⟨_, _, _, hv⟩
      have kp : Kept (fun k => k = q) w4 (w4.setCell ⟨q, 0, none⟩ (.slice ya yn yc)) := Kept.box _ _ _ _
      have oa4 : w4.ownsRow q 3 1 (.slice (some ⟨b, off, none⟩) ns.length ac) ns.length (ns.flatMap encI) := (own_below OA.out b3 (Nat.le_refl _)).kept hg4 (own_apart (own_below OA.out b3 (Nat.le_refl _)) py3.o (by decide))
      have b4 : Below q w w4 := AB.out.trans ((b3.mono (by omega)).grown hg4 (by have := b3.size; omega) (fun g hg => (own_ge py3.o hg).1))
      have NW : Hid (PyI q (M ++ put x) (.slice ya yn yc) (w4.setCell ⟨q, 0, none⟩ (.slice ya yn yc)) ∧ (w4.setCell ⟨q, 0, none⟩ (.slice ya yn yc)).ownsRow q 3 1 (.slice (some ⟨b, off, none⟩) ns.length ac) ns.length (ns.flatMap encI) ∧ Below q w (w4.setCell ⟨q, 0, none⟩ (.slice ya yn yc))) := ⟨⟨x4.set 0 _, own_off hown4 x4 (by decide) kp⟩, own_off oa4 x4 (by decide) kp, b4.trans (kp.below (by have := b4.size; omega) (fun g hg => by omega))⟩
      have f4 := x4.frozen 0
      have c4 := x4.cell 0
      refine wpAnyH_done (by kernel_rfl) ?_ _
      show Oper.wp _ _ _ _ _ _
      refine op_skip (w' := w4.setCell ⟨q, 0, none⟩ (.slice ya yn yc)) rfl (by go_simp) ?_
      clear HS0 HS3 HS4 HS f4 c4 b4 oa4 kp x4 hrun4 hown4 hg4 py3 ho3 hb3 b3 bd PY OA AB
      generalize w4.setCell ⟨q, 0, none⟩ (.slice ya yn yc) = w5 at *
      go_wp2_with fail
      go_roundw
      case rel => exact ⟨k + 1, _, by omega, by go_num, by rw [HT.out]; exact NW.out.1, NW.out.2.1, NW.out.2.2⟩
      case measure => simp [intOf]; omega
    · have ek : ns.take k = ns := List.take_of_length_le (by omega)
      rw [ek] at PY
      have HP : Hid ((∃ pv', PyI q (L ++ bytN ns) pv' wr) ∧ Below q w wr) := ⟨⟨_, PY.out⟩, AB.out⟩
      clear PY AB OA ek
      go_wp2_with fail
      go_end0
      exact ⟨rfl, HP.out⟩
end Go.Proofs.YthakibcfmbkpkaaDoor

namespace Go.Proofs.YthakibcfmbkpkaaDoor
set_option maxRecDepth 100000
open Go.ChangeShapes Go.WideShapes Go.ChangeAt Go.RowKit

theorem own_lit1 (w : World) (base : Nat) (hb : base ≤ w.heap.size) (x : Int) : (w.alloc (.cells #[.int .i64 x] 3)).ownsRow base 3 1 (.slice (some ⟨w.heap.size, 0, none⟩) 1 1) ([x] : List Int).length (([x] : List Int).flatMap encI) :=
  ⟨by simp [encI], .inr ⟨w.heap.size, 1, #[.int .i64 x], rfl, hb, heap_alloc_new w _, by simp, by simp [maxLen], by simp, by simp [encI]⟩⟩
theorem own_lit2 (w : World) (base : Nat) (hb : base ≤ w.heap.size) (x y : Int) : (w.alloc (.cells #[.int .i64 x, .int .i64 y] 3)).ownsRow base 3 1 (.slice (some ⟨w.heap.size, 0, none⟩) 2 2) ([x, y] : List Int).length (([x, y] : List Int).flatMap encI) :=
  ⟨by simp [encI], .inr ⟨w.heap.size, 2, #[.int .i64 x, .int .i64 y], rfl, hb, heap_alloc_new w _, by simp, by simp [maxLen], by simp, by simp [encI]⟩⟩
theorem own_lit4 (w : World) (base : Nat) (hb : base ≤ w.heap.size) (x y z u : Int) : (w.alloc (.cells #[.int .i64 x, .int .i64 y, .int .i64 z, .int .i64 u] 3)).ownsRow base 3 1 (.slice (some ⟨w.heap.size, 0, none⟩) 4 4) ([x, y, z, u] : List Int).length (([x, y, z, u] : List Int).flatMap encI) :=
  ⟨by simp [encI], .inr ⟨w.heap.size, 4, #[.int .i64 x, .int .i64 y, .int .i64 z, .int .i64 u], rfl, hb, heap_alloc_new w _, by simp, by simp [maxLen], by simp, by simp [encI]⟩⟩
theorem own_lenB {w : World} {base : Nat} {a : Option Addr} {n c : Nat} {l : List Int} (h : w.ownsRow base 5 1 (.slice a n c) l.length (l.map (Value.int .u8))) : n = l.length := by
  rcases h.2 with ⟨hv, h0⟩ | ⟨g, cap, cur, hv, _⟩
  · injection hv with _ h1 _; omega
  · injection hv with _ h1 _
/-- What Encode answers. -/
def BytP2 (w : World) (r : List Int × Int) (e : Ending) (w' : World) : Prop := ∃ v', e = .returned (.tuple #[v', .int .i64 r.2]) ∧ w'.ownsRow w.heap.size 5 1 v' r.1.length (r.1.map (Value.int .u8)) ∧ Below w.heap.size w w'
theorem BytP2.no {w w' : World} {f : Int} (hb : Below w.heap.size w w') : BytP2 w ([], f) (.returned (.tuple #[.slice none 0 0, .int .i64 f])) w' := ⟨_, rfl, World.ownsRow_nil _ _ _ _, hb⟩

set_option maxHeartbeats 8000000 in
set_option maxRecDepth 100000 in
theorem sEnc_any (s : SvS) (vv vm : Value) (w : World) (hv : MlR w vv s.vals) (hm : MlR w vm s.mail) (hB : ∀ x ∈ s.mail, mlB x) :
    Calls Tryd.prog 45 #[.agg #[.int .i64 s.step, .int .i64 s.phase, .bool s.fresh, vv, vm]] w (BytP2 w (encS s)) := by
  have HV : Hid (MlR w vv s.vals) := hv
  have HM : Hid (MlR w vm s.mail) := hm
  have CM : Hid (∀ X, MlR X vv s.vals → MlR X vm s.mail → Calls Tryd.prog 61 #[.agg #[.int .i64 s.step, .int .i64 s.phase, .bool s.fresh, vv, vm]] X fun e w' => e = .returned (.bool (svMay s)) ∧ Below X.heap.size X w') := fun X h1 h2 => sMayBe_any s vv vm X h1 h2 hB
  obtain ⟨va, vc, rfl, hvc, hvm, _, _⟩ := hv
  obtain ⟨ma, mc, rfl, hmc, hmm, _, _⟩ := hm
  unfold maxLen at hvm hmm
  have EN : Hid (svMay s = false → encS s = ([], 9)) := encS_no
  have EB : Hid (svMay s = true → ¬ (bytN (numsS s)).length ≤ 20000 → encS s = ([], 1)) := encS_big
  have EY : Hid (svMay s = true → (bytN (numsS s)).length ≤ 20000 → encS s = (wrap (bytN (numsS s)), 0)) := encS_yes
  have NI : Hid (svMay s = true → ∀ n ∈ numsS s, 0 ≤ n ∧ n ≤ 4398046511105) := numsS_in
  have NB : Hid (svMay s = true → (0 ≤ s.step ∧ s.step ≤ 100000) ∧ (s.phase = 0 ∨ s.phase = 1) ∧ s.vals.length ≤ 200 ∧ s.mail.length ≤ 5000 ∧ (∀ x ∈ s.vals, -1 ≤ x.1 ∧ x.1 ≤ 4398046511104 ∧ -1 ≤ x.2 ∧ x.2 < 200) ∧ (∀ x ∈ s.mail, 0 ≤ x.1 ∧ x.1 < 200 ∧ 0 ≤ x.2 ∧ x.2 ≤ 4398046511104)) := fun h => by
    obtain ⟨⟨h1, h2, h3⟩, h4, h5, h6, _, h7⟩ := svMay_iff.1 h
    exact ⟨⟨h1, h2⟩, h3, h4, h6, fun x hx => valS_iff.1 (valA_iff.1 h5 x hx), fun x hx => mayM_iff.1 (mayA_iff.1 h7 x hx)⟩
  have NE : Hid (bytN (numsS s) = (((bytN [s.step, s.phase, if s.fresh then 1 else 0, (s.vals.length : Int)]) ++ bytN (pairN 1 s.vals)) ++ bytN [(s.mail.length : Int)]) ++ bytN (pairN 0 s.mail)) := by
    show _ = _
    unfold numsS
    rw [bytN_app, bytN_app, bytN_app, List.append_assoc, List.append_assoc]
  have NL : Hid ((bytN (numsS s)).length ≤ 10 * (5 + 2 * s.vals.length + 2 * s.mail.length)) := by
    have := bytN_len (numsS s)
    rw [numsS_len] at this
    exact this
  have BY : Hid (svMay s = true → ∀ x ∈ bytN (numsS s), 0 ≤ x ∧ x ≤ 255) := fun h => bytN_bytes (fun n hn => ⟨(numsS_in h n hn).1, by have := (numsS_in h n hn).2; omega⟩)
  generalize encS s = R at *
  generalize svMay s = r at *
  generalize hNN : bytN (numsS s) = NN at *
  generalize numsS s = nums at *
  clear hNN
  obtain ⟨st, ph, fr, vs, ms⟩ := s
  simp only at HV HM CM hvc hvm hmc hmm NB NE NL ⊢
  clear hB
  have X0 : BX 34 (w.alloc (.cells #[.int .i64 st, .int .i64 ph, .bool fr, .slice va vs.length vc, .slice ma ms.length mc] 34)) w.heap.size #[.int .i64 st, .int .i64 ph, .bool fr, .slice va vs.length vc, .slice ma ms.length mc] := BX.new _ _ _
  have B0 : Below w.heap.size w (w.alloc (.cells #[.int .i64 st, .int .i64 ph, .bool fr, .slice va vs.length vc, .slice ma ms.length mc] 34)) := below_alloc _ _
  go_enter Tryd.func45, Tryd.ntmps45
  go_upto_region 1 with fail
  generalize w.alloc (.cells #[.int .i64 st, .int .i64 ph, .bool fr, .slice va vs.length vc, .slice ma ms.length mc] 34) = W0 at *
  have HK0 : Hid (∀ X, Below W0.heap.size W0 X → BX 34 X w.heap.size #[.int .i64 st, .int .i64 ph, .bool fr, .slice va vs.length vc, .slice ma ms.length mc] ∧ Below w.heap.size w X ∧ MlR X (.slice va vs.length vc) vs ∧ MlR X (.slice ma ms.length mc) ms) := fun X hX => ⟨X0.below hX X0.lt, B0.trans (hX.mono B0.size), HV.out.below (B0.trans (hX.mono B0.size)) (Nat.le_refl _), HM.out.below (B0.trans (hX.mono B0.size)) (Nat.le_refl _)⟩
  have A0 : Hid (Below W0.heap.size W0 W0) := Below.refl _ _
  obtain ⟨c0, c1, c2, c3, c4⟩ := X0.all5
  clear X0 B0 HV HM
  go_wp2_with fail
  refine (CM.out _ (HK0.out _ A0.out).2.2.1 (HK0.out _ A0.out).2.2.2).mono ?_
  rintro e W1 ⟨rfl, hb1⟩
  have A1 : Hid (Below W0.heap.size W0 W1) := hb1
  obtain ⟨Q1, bw1, _, _⟩ := HK0.out _ hb1
  have BW1 : Hid (Below w.heap.size w W1) := bw1
  clear c0 c1 c2 c3 c4 hb1 bw1 CM
  obtain ⟨c0, c1, c2, c3, c4⟩ := Q1.all5
  clear Q1
  cases r
  · have e := EN.out rfl
    subst e
    have HP : Hid (BytP2 w ([], 9) (.returned (.tuple #[.slice none 0 0, .int .i64 9])) W1) := BytP2.no BW1.out
    clear EN EB EY NI NB NE NL BY
    generalize BytP2 w ([], 9) = P at *
    go_wp2_with fail
    exact HP.out
  · obtain ⟨⟨hs0, hs1⟩, hph, hvl, hml, hvb, hmb⟩ := NB.out rfl
    have HVB : Hid (∀ x ∈ vs, -1 ≤ x.1 ∧ x.1 ≤ 4398046511104 ∧ -1 ≤ x.2 ∧ x.2 < 200) := hvb
    have HMB : Hid (∀ x ∈ ms, 0 ≤ x.1 ∧ x.1 < 200 ∧ 0 ≤ x.2 ∧ x.2 ≤ 4398046511104) := hmb
    have EB2 : Hid (¬ NN.length ≤ 20000 → R = ([], 1)) := EB.out rfl
    have EY2 : Hid (NN.length ≤ 20000 → R = (wrap NN, 0)) := EY.out rfl
    have hnl := NL.out
    have HNB : Hid (∀ x ∈ NN, 0 ≤ x ∧ x ≤ 255) := BY.out rfl
    have hphb : 0 ≤ ph ∧ ph ≤ 1 := by omega
    clear hph hvb hmb EN EB EY NI NB NL BY
    have W2 : Hid (PyI W1.heap.size [] (.slice none 0 0) (W1.alloc (.cells #[.slice none 0 0] 44)) ∧ Below W1.heap.size W1 (W1.alloc (.cells #[.slice none 0 0] 44))) := ⟨⟨BX.new _ _ _, World.ownsRow_nil _ _ _ _⟩, below_alloc _ _⟩
    go_upto_region 4 with fail
    generalize W1.alloc (.cells #[.slice none 0 0] 44) = W3 at *
    have HK : Hid (∀ X, Below W1.heap.size W1 X → BX 34 X w.heap.size #[.int .i64 st, .int .i64 ph, .bool fr, .slice va vs.length vc, .slice ma ms.length mc] ∧ Below w.heap.size w X ∧ MlR X (.slice va vs.length vc) vs ∧ MlR X (.slice ma ms.length mc) ms) := fun X hX => HK0.out X (A1.out.trans (hX.mono A1.out.size))
    have hqw := BW1.out.size
    clear HK0 A0 A1 BW1
    generalize hqe : W1.heap.size = q at *
    obtain ⟨py3, b3⟩ := W2.out
    have PY3 : Hid (PyI q [] (.slice none 0 0) W3) := py3
    have A3 : Hid (Below q W1 W3) := b3
    have HS1 : Hid (W1.heap.size = q) := hqe
    obtain ⟨Q3, _, _, _⟩ := HK.out _ b3
    clear c0 c1 c2 c3 c4 py3 b3 W2 hqe
    obtain ⟨c0, c1, c2, c3, c4⟩ := Q3.all5
    clear Q3
    go_upto_if 16 with fail
    obtain ⟨fz, hfz⟩ : ∃ z : Int, (if fr then (1 : Int) else 0) = z := ⟨_, rfl⟩
    have HFZ : Hid ((if fr then (1 : Int) else 0) = fz) := hfz
    have hfb : 0 ≤ fz ∧ fz ≤ 1 := by rw [← hfz]; cases fr <;> decide
    rw [hfz] at NE
    clear hfz
    go_cut [6] from 16 to 16 (fun t wx => t = .int .i64 fz ∧ W3 = wx)
    case first =>
      cases fr
      · have e : Hid (Value.int .i64 0 = .int .i64 fz) := by show _ = _; rw [← HFZ.out]; rfl
        clear HFZ
        go_wp2_with fail
        go_meet
        case rel => exact ⟨e.out, rfl⟩
      · have e : Hid (Value.int .i64 1 = .int .i64 fz) := by show _ = _; rw [← HFZ.out]; rfl
        clear HFZ
        go_wp2_with fail
        go_meet
        case rel => exact ⟨e.out, rfl⟩
    case rest =>
    obtain ⟨rfl, rfl⟩ := hcut
    clear HFZ
    have W4 : Hid (PyI q [] (.slice none 0 0) (W3.alloc (.cells #[.int .i64 st, .int .i64 ph, .int .i64 fz, .int .i64 (vs.length : Int)] 3)) ∧ (W3.alloc (.cells #[.int .i64 st, .int .i64 ph, .int .i64 fz, .int .i64 (vs.length : Int)] 3)).ownsRow q 3 1 (.slice (some ⟨W3.heap.size, 0, none⟩) 4 4) ([st, ph, fz, (vs.length : Int)] : List Int).length (([st, ph, fz, (vs.length : Int)] : List Int).flatMap encI) ∧ Below q W1 (W3.alloc (.cells #[.int .i64 st, .int .i64 ph, .int .i64 fz, .int .i64 (vs.length : Int)] 3))) := ⟨PY3.out.below (below_alloc _ _), own_lit4 W3 q (Nat.le_of_lt PY3.out.x.lt) _ _ _ _, A3.out.alloc (Nat.le_of_lt PY3.out.x.lt) _⟩
    go_wp2_with fail
    generalize W3.alloc (.cells #[.int .i64 st, .int .i64 ph, .int .i64 fz, .int .i64 (vs.length : Int)] 3) = W5 at *
    refine (sPut_any q _ [] _ [st, ph, fz, (vs.length : Int)] W5 W4.out.1 W4.out.2.1 (fun n hn => by simp only [List.mem_cons, List.not_mem_nil, or_false] at hn; omega) (by simp)).mono ?_
    rintro e W6 ⟨rfl, ⟨pv6, hpy6⟩, hb6⟩
    have PY6 : Hid (PyI q (bytN [st, ph, fz, (vs.length : Int)]) pv6 W6) := hpy6
    have A6 : Hid (Below q W1 W6) := W4.out.2.2.trans hb6
    have HL0 : Hid ((bytN [st, ph, fz, (vs.length : Int)]).length ≤ 40) := bytN_len _
    clear hpy6 hb6 W4 PY3 A3 c0 c1 c2 c3 c4
    obtain ⟨Q6, _, _, _⟩ := HK.out _ A6.out
    obtain ⟨c0, c1, c2, c3, c4⟩ := Q6.all5
    clear Q6
    generalize bytN [st, ph, fz, (vs.length : Int)] = N0 at *
    go_wp2_with fail
    have HZ0 : Hid (N0 ++ bytN (pairN 1 (vs.take 0)) = N0) := by show _ = _; simp [pairN, bytN]
    have HLV : Hid (∀ k, k ≤ vs.length → (N0 ++ bytN (pairN 1 (vs.take k))).length ≤ 40 + 20 * vs.length) := fun k hk => by
      have h1 := bytN_len (pairN 1 (vs.take k))
      have h2 := HL0.out
      rw [pairN_len, List.length_take] at h1
      rw [List.length_append]
      omega
    go_loopw [31] (fun i wr => ∃ (k : Nat) (pv : Value), k ≤ vs.length ∧ i = .int .i64 k ∧ PyI q (N0 ++ bytN (pairN 1 (vs.take k))) pv wr ∧ Below q W1 wr) (fun i _ => vs.length - (intOf i).toNat)
    case atStart => exact ⟨0, pv6, by omega, rfl, by rw [HZ0.out]; exact PY6.out, A6.out⟩
    case round =>
      clear PY6 A6 HZ0 c0 c1 c2 c3 c4
      obtain ⟨k, pv, hk, rfl, hpy, hbel⟩ := hrel
      have PY : Hid (PyI q (N0 ++ bytN (pairN 1 (vs.take k))) pv wr) := hpy
      have AB : Hid (Below q W1 wr) := hbel
      have hqr := hpy.x.lt
      have hll := HLV.out k hk
      obtain ⟨Q7, _, MV, _⟩ := HK.out _ hbel
      clear hpy hbel
      by_cases hlt : k < vs.length
      · obtain ⟨bv, ov, cv', e5, _, _, ltv, hvv⟩ := MlR.at MV (by omega)
        injection e5 with e5 _ e6
        subst e5 e6
        obtain ⟨x, hx⟩ := getX hlt
        obtain ⟨y0, y1⟩ := hvv k x hx
        obtain ⟨g1, g2, g3, g4⟩ := HVB.out x (List.mem_of_getElem? hx)
        have HT : Hid (N0 ++ bytN (pairN 1 (vs.take (k + 1))) = (N0 ++ bytN (pairN 1 (vs.take k))) ++ bytN [x.1 + 1, x.2 + 1]) := by show _ = _; rw [take_snoc hx, pairN_app, pairN_one, bytN_app, List.append_assoc]
        have p0 : (0 : Int) ≤ (k : Int) := by omega
        have p1 : (k : Int) < (vs.length : Int) := by omega
        have w1 : IntKind.i64.wrap (x.1 + 1) = x.1 + 1 := wrap_id64 (by omega) (by omega)
        have w2 : IntKind.i64.wrap (x.2 + 1) = x.2 + 1 := wrap_id64 (by omega) (by omega)
        obtain ⟨x1, x2⟩ := x
        simp only at y0 y1 g1 g2 g3 g4 HT w1 w2
        generalize N0 ++ bytN (pairN 1 (vs.take k)) = M at *
        have xb : BX 73 (wr.alloc (.cells #[.int .i64 x1, .int .i64 x2] 73)) wr.heap.size #[.int .i64 x1, .int .i64 x2] := BX.new _ _ _
        have W8 : Hid (PyI q M pv (wr.alloc (.cells #[.int .i64 x1, .int .i64 x2] 73)) ∧ Below q W1 (wr.alloc (.cells #[.int .i64 x1, .int .i64 x2] 73))) := ⟨PY.out.below (below_alloc _ _), AB.out.alloc (Nat.le_of_lt hqr) _⟩
        clear hvv hx Q7 MV PY AB
        go_upto_region 12 with fail
        obtain ⟨m0, m1, _⟩ := xb.all2
        generalize wr.alloc (.cells #[.int .i64 x1, .int .i64 x2] 73) = W9 at *
        generalize wr.heap.size = bx at *
        obtain ⟨py9, b9⟩ := W8.out
        have W10 : Hid (PyI q M pv (W9.alloc (.cells #[.int .i64 (x1 + 1), .int .i64 (x2 + 1)] 3)) ∧ (W9.alloc (.cells #[.int .i64 (x1 + 1), .int .i64 (x2 + 1)] 3)).ownsRow q 3 1 (.slice (some ⟨W9.heap.size, 0, none⟩) 2 2) ([x1 + 1, x2 + 1] : List Int).length (([x1 + 1, x2 + 1] : List Int).flatMap encI) ∧ Below q W1 (W9.alloc (.cells #[.int .i64 (x1 + 1), .int .i64 (x2 + 1)] 3))) := ⟨py9.below (below_alloc _ _), own_lit2 W9 q (Nat.le_of_lt py9.x.lt) _ _, b9.alloc (Nat.le_of_lt py9.x.lt) _⟩
        clear xb y0 y1 py9 b9 W8
        go_wp2_with fail
        generalize W9.alloc (.cells #[.int .i64 (x1 + 1), .int .i64 (x2 + 1)] 3) = W11 at *
        refine (sPut_any q _ M _ [x1 + 1, x2 + 1] W11 W10.out.1 W10.out.2.1 (fun n hn => by simp only [List.mem_cons, List.not_mem_nil, or_false] at hn; omega) (by simp only [List.length_cons, List.length_nil]; omega)).mono ?_
        rintro e W12 ⟨rfl, ⟨pv12, hpy12⟩, hb12⟩
        have PYN : Hid (PyI q (M ++ bytN [x1 + 1, x2 + 1]) pv12 W12) := hpy12
        have AN : Hid (Below q W1 W12) := W10.out.2.2.trans hb12
        clear hpy12 hb12 W10 m0 m1
        go_wp2_with fail
        go_roundw
        case rel => exact ⟨k + 1, pv12, by omega, by go_num, by rw [HT.out]; exact PYN.out, AN.out⟩
        case measure => simp [intOf]; omega
      · have ek : vs.take k = vs := List.take_of_length_le (by omega)
        rw [ek] at PY hll
        obtain ⟨V7, rfl⟩ : ∃ V, V = wr := ⟨wr, rfl⟩
        obtain ⟨c0, c1, c2, c3, c4⟩ := Q7.all5
        generalize N0 ++ bytN (pairN 1 vs) = N1 at *
        have W13 : Hid (PyI q N1 pv (V7.alloc (.cells #[.int .i64 (ms.length : Int)] 3)) ∧ (V7.alloc (.cells #[.int .i64 (ms.length : Int)] 3)).ownsRow q 3 1 (.slice (some ⟨V7.heap.size, 0, none⟩) 1 1) ([(ms.length : Int)] : List Int).length (([(ms.length : Int)] : List Int).flatMap encI) ∧ Below q W1 (V7.alloc (.cells #[.int .i64 (ms.length : Int)] 3))) := ⟨PY.out.below (below_alloc _ _), own_lit1 V7 q (Nat.le_of_lt hqr) _, AB.out.alloc (Nat.le_of_lt hqr) _⟩
        clear ek Q7 MV PY AB HLV HVB
        go_wp2_with fail
        generalize V7.alloc (.cells #[.int .i64 (ms.length : Int)] 3) = W14 at *
        refine (sPut_any q _ N1 _ [(ms.length : Int)] W14 W13.out.1 W13.out.2.1 (fun n hn => by simp only [List.mem_cons, List.not_mem_nil, or_false] at hn; omega) (by simp only [List.length_cons, List.length_nil]; omega)).mono ?_
        rintro e W15 ⟨rfl, ⟨pv15, hpy15⟩, hb15⟩
        have PY15 : Hid (PyI q (N1 ++ bytN [(ms.length : Int)]) pv15 W15) := hpy15
        have A15 : Hid (Below q W1 W15) := W13.out.2.2.trans hb15
        have HL1 : Hid ((N1 ++ bytN [(ms.length : Int)]).length ≤ 50 + 20 * vs.length) := by
          have h1 := bytN_len [(ms.length : Int)]
          show _ ≤ _
          rw [List.length_append]
          simp only [List.length_cons, List.length_nil] at h1
          omega
        clear hpy15 hb15 W13 c0 c1 c2 c3 c4
        obtain ⟨Q15, _, _, _⟩ := HK.out _ A15.out
        obtain ⟨c0, c1, c2, c3, c4⟩ := Q15.all5
        clear Q15
        generalize N1 ++ bytN [(ms.length : Int)] = N2 at *
        go_wp2_with fail
        have HZ2 : Hid (N2 ++ bytN (pairN 0 (ms.take 0)) = N2) := by show _ = _; simp [pairN, bytN]
        have HLM : Hid (∀ k, k ≤ ms.length → (N2 ++ bytN (pairN 0 (ms.take k))).length ≤ 50 + 20 * vs.length + 20 * ms.length) := fun k hk => by
          have h1 := bytN_len (pairN 0 (ms.take k))
          have h2 := HL1.out
          rw [pairN_len, List.length_take] at h1
          rw [List.length_append]
          omega
        go_loopw [54] (fun i wr => ∃ (k : Nat) (pv : Value), k ≤ ms.length ∧ i = .int .i64 k ∧ PyI q (N2 ++ bytN (pairN 0 (ms.take k))) pv wr ∧ Below q W1 wr) (fun i _ => ms.length - (intOf i).toNat)
        case atStart => exact ⟨0, pv15, by omega, rfl, by rw [HZ2.out]; exact PY15.out, A15.out⟩
        case round =>
          clear PY15 A15 HZ2 c0 c1 c2 c3 c4
          obtain ⟨k, pv, hk, rfl, hpy, hbel⟩ := hrel
          have PY : Hid (PyI q (N2 ++ bytN (pairN 0 (ms.take k))) pv wr) := hpy
          have AB : Hid (Below q W1 wr) := hbel
          have hqr := hpy.x.lt
          have hll2 := HLM.out k hk
          obtain ⟨Q7, BW7, _, MM⟩ := HK.out _ hbel
          have hpv := hpy.shape
          clear hpy hbel
          by_cases hlt : k < ms.length
          · obtain ⟨bv, ov, cv', e5, _, _, ltv, hvv⟩ := MlR.at MM (by omega)
            injection e5 with e5 _ e6
            subst e5 e6
            obtain ⟨x, hx⟩ := getX hlt
            obtain ⟨y0, y1⟩ := hvv k x hx
            obtain ⟨g1, g2, g3, g4⟩ := HMB.out x (List.mem_of_getElem? hx)
            have HT : Hid (N2 ++ bytN (pairN 0 (ms.take (k + 1))) = (N2 ++ bytN (pairN 0 (ms.take k))) ++ bytN [x.1, x.2]) := by show _ = _; rw [take_snoc hx, pairN_app, pairN_one, bytN_app, List.append_assoc, Int.add_zero, Int.add_zero]
            have p0 : (0 : Int) ≤ (k : Int) := by omega
            have p1 : (k : Int) < (ms.length : Int) := by omega
            obtain ⟨x1, x2⟩ := x
            simp only at y0 y1 g1 g2 g3 g4 HT
            generalize N2 ++ bytN (pairN 0 (ms.take k)) = M at *
            have xb : BX 75 (wr.alloc (.cells #[.int .i64 x1, .int .i64 x2] 75)) wr.heap.size #[.int .i64 x1, .int .i64 x2] := BX.new _ _ _
            have W8 : Hid (PyI q M pv (wr.alloc (.cells #[.int .i64 x1, .int .i64 x2] 75)) ∧ Below q W1 (wr.alloc (.cells #[.int .i64 x1, .int .i64 x2] 75))) := ⟨PY.out.below (below_alloc _ _), AB.out.alloc (Nat.le_of_lt hqr) _⟩
            clear hvv hx Q7 MM PY AB BW7 hpv
            go_upto_region 18 with fail
            obtain ⟨m0, m1, _⟩ := xb.all2
            generalize wr.alloc (.cells #[.int .i64 x1, .int .i64 x2] 75) = W9 at *
            generalize wr.heap.size = bx at *
            obtain ⟨py9, b9⟩ := W8.out
            have W10 : Hid (PyI q M pv (W9.alloc (.cells #[.int .i64 x1, .int .i64 x2] 3)) ∧ (W9.alloc (.cells #[.int .i64 x1, .int .i64 x2] 3)).ownsRow q 3 1 (.slice (some ⟨W9.heap.size, 0, none⟩) 2 2) ([x1, x2] : List Int).length (([x1, x2] : List Int).flatMap encI) ∧ Below q W1 (W9.alloc (.cells #[.int .i64 x1, .int .i64 x2] 3))) := ⟨py9.below (below_alloc _ _), own_lit2 W9 q (Nat.le_of_lt py9.x.lt) _ _, b9.alloc (Nat.le_of_lt py9.x.lt) _⟩
            clear xb y0 y1 py9 b9 W8
            go_wp2_with fail
            generalize W9.alloc (.cells #[.int .i64 x1, .int .i64 x2] 3) = W11 at *
            refine (sPut_any q _ M _ [x1, x2] W11 W10.out.1 W10.out.2.1 (fun n hn => by simp only [List.mem_cons, List.not_mem_nil, or_false] at hn; omega) (by simp only [List.length_cons, List.length_nil]; omega)).mono ?_
            rintro e W12 ⟨rfl, ⟨pv12, hpy12⟩, hb12⟩
            have PYN : Hid (PyI q (M ++ bytN [x1, x2]) pv12 W12) := hpy12
            have AN : Hid (Below q W1 W12) := W10.out.2.2.trans hb12
            clear hpy12 hb12 W10 m0 m1
            go_wp2_with fail
            go_roundw
            case rel => exact ⟨k + 1, pv12, by omega, by go_num, by rw [HT.out]; exact PYN.out, AN.out⟩
            case measure => simp [intOf]; omega
          · have ek : ms.take k = ms := List.take_of_length_le (by omega)
            rw [ek] at PY
            rw [← NE.out] at PY
            obtain ⟨pa, pn, pc, rfl⟩ := hpv
            have pq := PY.out.x.cell 0
            have hpn : pn = NN.length := own_lenB PY.out.o
            have HB7 : Hid (Below w.heap.size w wr) := BW7
            have RN : Hid (Reads .u8 wr (.slice pa pn pc) NN) := reads_own PY.out.o
            subst hpn
            clear ek Q7 MM AB NE HLM HMB
            by_cases hsz : NN.length ≤ 20000
            · have HRE : Hid (R = (wrap NN, 0)) := EY2.out hsz
              have CW : Hid (∀ X, X = wr → _) := fun X (_ : X = wr) => wrap_any (.slice pa NN.length pc) NN wr RN.out HNB.out hsz
              clear EB2 EY2
              go_wp2_with fail
              refine (CW.out _ rfl).mono ?_
              rintro e W9 ⟨v9, rfl, ho9, hb9⟩
              have HP : Hid (BytP2 w R (.returned (.tuple #[v9, .int .i64 0])) W9) := by
                show BytP2 _ _ _ _
                rw [HRE.out]
                exact ⟨_, rfl, own_lower ho9 HB7.out.size, HB7.out.trans (hb9.mono HB7.out.size)⟩
              clear ho9 hb9 CW
              generalize BytP2 w R = P at *
              go_wp2_with fail
              exact HP.out
            · have HRE : Hid (R = ([], 1)) := EB2.out hsz
              have CW : Hid (∀ X, X = wr → _) := fun X (_ : X = wr) => wrap_over pa NN.length pc wr (by omega)
              clear EB2 EY2
              go_wp2_with fail
              refine (CW.out _ rfl).mono ?_
              rintro e W9 ⟨rfl, rfl⟩
              have HP : Hid (BytP2 w R (.returned (.tuple #[.slice none 0 0, .int .i64 1])) W9) := by
                show BytP2 _ _ _ _
                rw [HRE.out]
                exact BytP2.no HB7.out
              clear CW
              generalize BytP2 w R = P at *
              go_wp2_with fail
              exact HP.out
end Go.Proofs.YthakibcfmbkpkaaDoor

namespace Go.Proofs.YthakibcfmbkpkaaDoor
set_option maxRecDepth 100000
open Go.ChangeShapes Go.WideShapes Go.ChangeAt Go.RowKit

theorem unwrap_any (v : Value) (xs : List Int) (w : World) (h : Reads .u8 w v xs) (hx : ∀ x ∈ xs, 0 ≤ x ∧ x ≤ 255) :
    Calls Tryd.prog 43 #[v] w fun e w' =>
      ∃ v', e = .returned (.tuple #[v', .int .i64 (unwrapF xs).2.1, .int .i64 (unwrapF xs).2.2]) ∧ w'.ownsRow w.heap.size 5 1 v' (unwrapF xs).1.length ((unwrapF xs).1.map (Value.int .u8)) ∧ Below w.heap.size w w' := by
  have HR : Hid (Reads .u8 w v xs) := h
  have HX : Hid (∀ x ∈ xs, 0 ≤ x ∧ x ≤ 255) := hx
  clear h hx
  generalize hu : unwrapF xs = q at *
  have HU : Hid (unwrapF xs = q) := hu
  clear hu
  obtain ⟨q1, q2, q3⟩ := q
  go_enter Tryd.func43, Tryd.ntmps43
  go_wp2_with fail
  refine (newTable_any _).mono ?_
  rintro e w1 ⟨rfl, hT, hbel, _⟩
  have HT : Hid (Tab w1 w.heap.size) := hT
  have hs := hbel.size
  clear hT
  go_wp2_with fail
  refine (unwrap_tab _ _ xs _ HT.out (HR.out.below hbel (Nat.le_refl _)) HX.out).mono ?_
  rintro e w2 ⟨v2, rfl, hown2, hbel2⟩
  rw [HU.out] at hown2 ⊢
  have O2 : Hid (w2.ownsRow w.heap.size 5 1 v2 q1.length (q1.map (Value.int .u8))) := own_lower hown2 hs
  have B2 : Hid (Below w.heap.size w w2) := hbel.trans (hbel2.mono hs)
  clear hown2 hbel2 hbel
  go_wp2
  go_ret3
  exact ⟨v2, rfl, O2.out, B2.out⟩
end Go.Proofs.YthakibcfmbkpkaaDoor

namespace Go.Proofs.YthakibcfmbkpkaaDoor
set_option maxRecDepth 100000
open Go.ChangeShapes Go.WideShapes Go.ChangeAt Go.RowKit

theorem unwrap_len (xs : List Int) : (unwrapF xs).1.length ≤ 20000 := by
  unfold unwrapF
  split
  · simp
  · split
    · simp
    · split
      · simp
      · split
        · simp only [List.length_take]; omega
        · simp
theorem wrap_i64B (x : Int) : i64B (IntKind.i64.wrap x) := by rw [IntKind.wrap_i64]; unfold i64B; omega
theorem pairsK_mlB (d : Int) (l : List Int) : ∀ k, ∀ x ∈ (pairsK d k l).1, mlB x
  | 0, x, hx => by cases hx
  | k + 1, x, hx => by
    rcases List.mem_append.1 hx with h | h
    · exact pairsK_mlB d l k x h
    · rw [List.mem_singleton.1 h]; exact ⟨wrap_i64B _, wrap_i64B _⟩
theorem parse_mlB (l : List Int) : ∀ x ∈ (parseC l).mail, mlB x := pairsK_mlB 0 _ _
/-- Something saved that is answered, and an error. -/
def SvdP (w : World) (r : SvS × Int) (e : Ending) (w' : World) : Prop :=
  ∃ v1 v2, e = .returned (.tuple #[.agg #[.int .i64 r.1.step, .int .i64 r.1.phase, .bool r.1.fresh, v1, v2], .int .i64 r.2]) ∧ w'.ownsRow w.heap.size 73 2 v1 r.1.vals.length (r.1.vals.flatMap encM) ∧ w'.ownsRow w.heap.size 75 2 v2 r.1.mail.length (r.1.mail.flatMap encM) ∧ Below w.heap.size w w'
theorem SvdP.no {w w' : World} {f : Int} (hb : Below w.heap.size w w') : SvdP w (sv0, f) (.returned (.tuple #[.agg #[.int .i64 0, .int .i64 0, .bool false, .slice none 0 0, .slice none 0 0], .int .i64 f])) w' :=
  ⟨_, _, rfl, World.ownsRow_nil _ _ _ _, World.ownsRow_nil _ _ _ _, hb⟩
theorem below_putS {B : Nat} {w0 w : World} {q : Nat} (h : Below B w0 w) (hq : B ≤ q) (a b c d e : Value) : Below B w0 (putS w q a b c d e) := ((((h.setCell (p := ⟨q, 0, none⟩) hq a).setCell (p := ⟨q, 1, none⟩) hq b).setCell (p := ⟨q, 2, none⟩) hq c).setCell (p := ⟨q, 3, none⟩) hq d).setCell (p := ⟨q, 4, none⟩) hq e

set_option maxHeartbeats 4000000 in
set_option maxRecDepth 100000 in
theorem ckDecode_any (v : Value) (b : List Int) (w : World) (hr : Reads .u8 w v b) (hx : ∀ x ∈ b, 0 ≤ x ∧ x ≤ 255) :
    Calls Tryd.prog 25 #[v] w (SvdP w (decS b)) := by
  have HR : Hid (Reads .u8 w v b) := hr
  have HX : Hid (∀ x ∈ b, 0 ≤ x ∧ x ≤ 255) := hx
  obtain ⟨va, vc, rfl⟩ : ∃ a c, v = .slice a b.length c := by obtain ⟨a, c, e, _⟩ := hr; exact ⟨a, c, e⟩
  obtain ⟨W0, hW0⟩ : ∃ W0, W0 = w.alloc (.cells #[.int .i64 0, .int .i64 0, .bool false, .slice none 0 0, .slice none 0 0] 34) := ⟨_, rfl⟩
  have Q0 : BX 34 W0 w.heap.size #[.int .i64 0, .int .i64 0, .bool false, .slice none 0 0, .slice none 0 0] := by rw [hW0]; exact BX.new _ _ _
  have s1 : w.heap.size + 1 ≤ W0.heap.size := by rw [hW0]; simp
  have B0 : Hid (Below w.heap.size w W0) := by show Below _ _ _; rw [hW0]; exact below_alloc _ _
  have ZX : Hid (∀ X, Below W0.heap.size W0 X → BX 34 X w.heap.size #[.int .i64 0, .int .i64 0, .bool false, .slice none 0 0, .slice none 0 0] ∧ Below w.heap.size w X) := fun X hX => ⟨Q0.below hX (by omega), B0.out.trans (hX.mono (by omega))⟩
  have DE : Hid (¬ (unwrapF b).2.2 = 0 → decS b = (sv0, (unwrapF b).2.2)) := decS_err
  have DI : Hid ((unwrapF b).2.2 = 0 → decS b = if encS (parseC (unwrapF b).1) = (b, 0) then (parseC (unwrapF b).1, 0) else (sv0, 3)) := fun h => by unfold decS; rw [if_pos h]
  have UL := unwrap_len b
  have UB : Hid (∀ x ∈ (unwrapF b).1, 0 ≤ x ∧ x ≤ 255) := unwrapF_bytes hx
  have CU : Hid (∀ X, Reads .u8 X (.slice va b.length vc) b → Calls Tryd.prog 43 #[.slice va b.length vc] X fun e w' => ∃ v', e = .returned (.tuple #[v', .int .i64 (unwrapF b).2.1, .int .i64 (unwrapF b).2.2]) ∧ w'.ownsRow X.heap.size 5 1 v' (unwrapF b).1.length ((unwrapF b).1.map (Value.int .u8)) ∧ Below X.heap.size X w') := fun X hX => unwrap_any _ b X hX HX.out
  have R0 : Hid (Reads .u8 W0 (.slice va b.length vc) b) := HR.out.below B0.out (Nat.le_refl _)
  clear Q0 hr hx HR
  generalize unwrapF b = U at *
  obtain ⟨pl, us, ue⟩ := U
  simp only at UL
  have PM : Hid (∀ x ∈ (parseC pl).mail, mlB x) := parse_mlB pl
  have CP : Hid (∀ X u, Reads .u8 X u pl → (∀ a n c, u = .slice (some a) n c → a.block < X.heap.size) → Calls Tryd.prog 44 #[u] X _) := fun X u h1 h2 => parse_any u pl X h1 h2 UB.out (by omega)
  have EB : Hid (∀ x ∈ (encS (parseC pl)).1, 0 ≤ x ∧ x ≤ 255) := encS_bd _
  generalize parseC pl = p at *
  generalize decS b = D at *
  have CE : Hid (∀ X v1 v2, MlR X v1 p.vals → MlR X v2 p.mail → Calls Tryd.prog 45 #[.agg #[.int .i64 p.step, .int .i64 p.phase, .bool p.fresh, v1, v2]] X (BytP2 X (encS p))) := fun X v1 v2 h1 h2 => sEnc_any p v1 v2 X h1 h2 PM.out
  generalize encS p = E at *
  obtain ⟨eb, ee⟩ := E
  go_enter Tryd.func25, Tryd.ntmps25
  go_upto_region 1 with fail
  rw [← hW0]
  clear hW0
  go_wp2_with fail
  refine (CU.out _ R0.out).mono ?_
  rintro e w1 ⟨v1, rfl, ho1, hb1⟩
  have A1 : Hid (Below W0.heap.size W0 w1) := hb1
  have hs1 := hb1.size
  obtain ⟨pa, pc, rfl⟩ := own_slice ho1
  have R1 : Hid (Reads .u8 w1 (.slice pa pl.length pc) pl) := reads_own ho1
  have LT1 : Hid (∀ a n c, (.slice pa pl.length pc : Value) = .slice (some a) n c → a.block < w1.heap.size) := fun a n c e => by
    injection e with e
    subst e
    rcases own_shapeK ho1 with ⟨e, _⟩ | ⟨g', c', e, _, h2, _⟩
    · injection e with e; cases e
    · injection e with e; injection e with e; subst e; exact h2
  clear ho1 hb1
  by_cases hu : ue = 0
  case neg =>
    have hd := DE.out hu
    have tz : (ue != 0) = true := by simp [hu]
    obtain ⟨zz, zb⟩ := ZX.out _ A1.out
    have ZR : Hid (BX 34 (putS w1 w.heap.size (.int .i64 0) (.int .i64 0) (.bool false) (.slice none 0 0) (.slice none 0 0)) w.heap.size #[.int .i64 0, .int .i64 0, .bool false, .slice none 0 0, .slice none 0 0] ∧ Below w.heap.size w (putS w1 w.heap.size (.int .i64 0) (.int .i64 0) (.bool false) (.slice none 0 0) (.slice none 0 0))) := ⟨zz.putS, below_putS zb (Nat.le_refl _) _ _ _ _ _⟩
    obtain ⟨e0, e1, e2, e3, e4⟩ := zz.all5
    obtain ⟨f0, f1, f2, f3, f4⟩ := zz.all5f
    have HDD : Hid (D = (sv0, ue)) := hd
    clear hd zz zb
    go_wp2_with fail
    obtain ⟨r0, r1, r2, r3, r4⟩ := ZR.out.1.all5
    unfold putS at r0 r1 r2 r3 r4
    refine bodyPost_ret (v := .tuple #[.agg #[.int .i64 0, .int .i64 0, .bool false, .slice none 0 0, .slice none 0 0], .int .i64 ue]) (by simp [results, Tryd.results25, go_sem, r0, r1, r2, r3, r4]) rfl ?_
    rw [HDD.out]
    exact SvdP.no ZR.out.2
  case pos =>
    subst hu
    have HDI : Hid (D = if (eb, ee) = (b, 0) then (p, 0) else (sv0, 3)) := DI.out rfl
    clear DE DI
    go_upto_region 4 with fail
    go_wp2_with fail
    refine (CP.out _ _ R1.out LT1.out).mono ?_
    rintro e w2 ⟨u1, u2, rfl, hu1, hu2, hb2⟩
    have V2 : MlR w2 u1 p.vals := RowK.own encM_len hu1
    have M2 : MlR w2 u2 p.mail := RowK.own encM_len hu2
    obtain ⟨vb, vd, rfl⟩ := V2.shape
    obtain ⟨mb, md, rfl⟩ := M2.shape
    have A2 : Below W0.heap.size W0 w2 := A1.out.trans (hb2.mono hs1)
    have N3 : Hid (Below W0.heap.size W0 (w2.alloc (.cells #[.int .i64 p.step, .int .i64 p.phase, .bool p.fresh, .slice vb p.vals.length vd, .slice mb p.mail.length md] 34)) ∧ BX 34 (w2.alloc (.cells #[.int .i64 p.step, .int .i64 p.phase, .bool p.fresh, .slice vb p.vals.length vd, .slice mb p.mail.length md] 34)) w2.heap.size #[.int .i64 p.step, .int .i64 p.phase, .bool p.fresh, .slice vb p.vals.length vd, .slice mb p.mail.length md] ∧ (w2.alloc (.cells #[.int .i64 p.step, .int .i64 p.phase, .bool p.fresh, .slice vb p.vals.length vd, .slice mb p.mail.length md] 34)).ownsRow W0.heap.size 73 2 (.slice vb p.vals.length vd) p.vals.length (p.vals.flatMap encM) ∧ (w2.alloc (.cells #[.int .i64 p.step, .int .i64 p.phase, .bool p.fresh, .slice vb p.vals.length vd, .slice mb p.mail.length md] 34)).ownsRow W0.heap.size 75 2 (.slice mb p.mail.length md) p.mail.length (p.mail.flatMap encM)) := ⟨A2.alloc A2.size _, BX.new _ _ _, own_lower (hu1.alloc _) hs1, own_lower (hu2.alloc _) hs1⟩
    clear hu1 hu2 hb2 V2 M2 A2 CP
    go_upto_region 5 with fail
    generalize (w2.alloc (.cells #[.int .i64 p.step, .int .i64 p.phase, .bool p.fresh, .slice vb p.vals.length vd, .slice mb p.mail.length md] 34)) = w3 at *
    generalize w2.heap.size = b3 at *
    obtain ⟨A3', X3', V3', M3'⟩ := N3.out
    have A3 : Hid (Below W0.heap.size W0 w3) := A3'
    have X3 : Hid (BX 34 w3 b3 #[.int .i64 p.step, .int .i64 p.phase, .bool p.fresh, .slice vb p.vals.length vd, .slice mb p.mail.length md]) := X3'
    have V3 : Hid (w3.ownsRow W0.heap.size 73 2 (.slice vb p.vals.length vd) p.vals.length (p.vals.flatMap encM)) := V3'
    have M3 : Hid (w3.ownsRow W0.heap.size 75 2 (.slice mb p.mail.length md) p.mail.length (p.mail.flatMap encM)) := M3'
    have hs3 := A3'.size
    obtain ⟨c0, c1, c2, c3, c4⟩ := X3'.all5
    clear A3' X3' V3' M3' N3
    go_wp2_with fail
    refine (CE.out _ _ _ (RowK.own encM_len V3.out) (RowK.own encM_len M3.out)).mono ?_
    rintro e w4 ⟨ve, rfl, ho4, hb4⟩
    obtain ⟨ea, ec, rfl⟩ := own_slice ho4
    have R4 : Hid (Reads .u8 w4 (.slice ea eb.length ec) eb) := reads_own ho4
    have A4 : Hid (Below W0.heap.size W0 w4) := A3.out.trans (hb4.mono hs3)
    have X4 : Hid (BX 34 w4 b3 #[.int .i64 p.step, .int .i64 p.phase, .bool p.fresh, .slice vb p.vals.length vd, .slice mb p.mail.length md]) := X3.out.below hb4 X3.out.lt
    have V4 : Hid (w4.ownsRow W0.heap.size 73 2 (.slice vb p.vals.length vd) p.vals.length (p.vals.flatMap encM)) := own_below V3.out hb4 (Nat.le_refl _)
    have M4 : Hid (w4.ownsRow W0.heap.size 75 2 (.slice mb p.mail.length md) p.mail.length (p.mail.flatMap encM)) := own_below M3.out hb4 (Nat.le_refl _)
    have RB : Hid (Reads .u8 w4 (.slice va b.length vc) b) := R0.out.below A4.out (Nat.le_refl _)
    obtain ⟨zz, zb⟩ := ZX.out _ A4.out
    have ZR : Hid (BX 34 (putS w4 w.heap.size (.int .i64 0) (.int .i64 0) (.bool false) (.slice none 0 0) (.slice none 0 0)) w.heap.size #[.int .i64 0, .int .i64 0, .bool false, .slice none 0 0, .slice none 0 0] ∧ Below w.heap.size w (putS w4 w.heap.size (.int .i64 0) (.int .i64 0) (.bool false) (.slice none 0 0) (.slice none 0 0))) := ⟨zz.putS, below_putS zb (Nat.le_refl _) _ _ _ _ _⟩
    have ZY : Hid (BX 34 (putS w4 w.heap.size (.int .i64 p.step) (.int .i64 p.phase) (.bool p.fresh) (.slice vb p.vals.length vd) (.slice mb p.mail.length md)) w.heap.size #[.int .i64 p.step, .int .i64 p.phase, .bool p.fresh, .slice vb p.vals.length vd, .slice mb p.mail.length md] ∧ (putS w4 w.heap.size (.int .i64 p.step) (.int .i64 p.phase) (.bool p.fresh) (.slice vb p.vals.length vd) (.slice mb p.mail.length md)).ownsRow w.heap.size 73 2 (.slice vb p.vals.length vd) p.vals.length (p.vals.flatMap encM) ∧ (putS w4 w.heap.size (.int .i64 p.step) (.int .i64 p.phase) (.bool p.fresh) (.slice vb p.vals.length vd) (.slice mb p.mail.length md)).ownsRow w.heap.size 75 2 (.slice mb p.mail.length md) p.mail.length (p.mail.flatMap encM) ∧ Below w.heap.size w (putS w4 w.heap.size (.int .i64 p.step) (.int .i64 p.phase) (.bool p.fresh) (.slice vb p.vals.length vd) (.slice mb p.mail.length md))) := ⟨zz.putS, own_lower (own_off V4.out zz (by decide) (kept_putS w4 w.heap.size _ _ _ _ _)) (by omega), own_lower (own_off M4.out zz (by decide) (kept_putS w4 w.heap.size _ _ _ _ _)) (by omega), below_putS zb (Nat.le_refl _) _ _ _ _ _⟩
    have ZZ : Hid (BX 34 w4 w.heap.size #[.int .i64 0, .int .i64 0, .bool false, .slice none 0 0, .slice none 0 0]) := zz
    clear c0 c1 c2 c3 c4 zz zb ho4 hb4 CE
    by_cases he : ee = 0
    case neg =>
      have HDD : Hid (D = (sv0, 3)) := by show _ = _; rw [HDI.out, if_neg (fun h => he (Prod.mk.inj h).2)]
      have tz : (ee != 0) = true := by simp [he]
      obtain ⟨e0, e1, e2, e3, e4⟩ := ZZ.out.all5
      obtain ⟨f0, f1, f2, f3, f4⟩ := ZZ.out.all5f
      go_wp2_with fail
      obtain ⟨r0, r1, r2, r3, r4⟩ := ZR.out.1.all5
      unfold putS at r0 r1 r2 r3 r4
      refine bodyPost_ret (v := .tuple #[.agg #[.int .i64 0, .int .i64 0, .bool false, .slice none 0 0, .slice none 0 0], .int .i64 3]) (by simp [results, Tryd.results25, go_sem, r0, r1, r2, r3, r4]) rfl ?_
      rw [HDD.out]
      exact SvdP.no ZR.out.2
    case pos =>
      subst he
      go_upto_region 6 with fail
      go_wp2_with fail
      refine (bytesEqual_any _ _ eb b _ R4.out RB.out EB.out HX.out).mono ?_
      rintro e w5 ⟨rfl, e5⟩
      have e5' : w4 = w5 := e5.symm
      subst e5'
      clear e5
      obtain ⟨e0, e1, e2, e3, e4⟩ := ZZ.out.all5
      obtain ⟨f0, f1, f2, f3, f4⟩ := ZZ.out.all5f
      by_cases hq : eb = b
      case neg =>
        have HDD : Hid (D = (sv0, 3)) := by show _ = _; rw [HDI.out, if_neg (fun h => hq (Prod.mk.inj h).1)]
        have tq : decide (eb = b) = false := by simp [hq]
        rw [tq]
        clear hq
        go_wp2_with fail
        obtain ⟨r0, r1, r2, r3, r4⟩ := ZR.out.1.all5
        unfold putS at r0 r1 r2 r3 r4
        refine bodyPost_ret (v := .tuple #[.agg #[.int .i64 0, .int .i64 0, .bool false, .slice none 0 0, .slice none 0 0], .int .i64 3]) (by simp [results, Tryd.results25, go_sem, r0, r1, r2, r3, r4]) rfl ?_
        rw [HDD.out]
        exact SvdP.no ZR.out.2
      case pos =>
        have HDD : Hid (D = (p, 0)) := by show _ = _; rw [HDI.out, if_pos (by rw [hq])]
        have tq : decide (eb = b) = true := by simp [hq]
        rw [tq]
        clear hq
        obtain ⟨c0, c1, c2, c3, c4⟩ := X4.out.all5
        go_wp2_with fail
        obtain ⟨r0, r1, r2, r3, r4⟩ := ZY.out.1.all5
        unfold putS at r0 r1 r2 r3 r4
        refine bodyPost_ret (v := .tuple #[.agg #[.int .i64 p.step, .int .i64 p.phase, .bool p.fresh, .slice vb p.vals.length vd, .slice mb p.mail.length md], .int .i64 0]) (by simp [results, Tryd.results25, go_sem, r0, r1, r2, r3, r4]) rfl ?_
        rw [HDD.out]
        exact ⟨_, _, rfl, ZY.out.2.1, ZY.out.2.2.1, ZY.out.2.2.2⟩
end Go.Proofs.YthakibcfmbkpkaaDoor

namespace Go.Proofs.YthakibcfmbkpkaaDoor
set_option maxRecDepth 100000
open Go.ChangeShapes Go.WideShapes Go.ChangeAt Go.RowKit

def loadE (fs : List FileL) (n : Int) : SvS × Int :=
  if 0 ≤ n ∧ n ≤ 1 then (if (readF fs (slotB n)).2 = 0 then decS (readF fs (slotB n)).1 else (sv0, (readF fs (slotB n)).2)) else (sv0, 2)
theorem loadE_no {fs : List FileL} {n : Int} (h : ¬ (0 ≤ n ∧ n ≤ 1)) : loadE fs n = (sv0, 2) := by rw [loadE, if_neg h]
theorem loadE_err {fs : List FileL} {n : Int} (h : 0 ≤ n ∧ n ≤ 1) (h2 : ¬ (readF fs (slotB n)).2 = 0) : loadE fs n = (sv0, (readF fs (slotB n)).2) := by rw [loadE, if_pos h, if_neg h2]
theorem loadE_yes {fs : List FileL} {n : Int} (h : 0 ≤ n ∧ n ≤ 1) (h2 : (readF fs (slotB n)).2 = 0) : loadE fs n = decS (readF fs (slotB n)).1 := by rw [loadE, if_pos h, if_pos h2]
theorem SvdP.at {w w' : World} {s : SvS} {f : Int} {v1 v2 : Value} (h1 : w'.ownsRow w.heap.size 73 2 v1 s.vals.length (s.vals.flatMap encM)) (h2 : w'.ownsRow w.heap.size 75 2 v2 s.mail.length (s.mail.flatMap encM)) (hb : Below w.heap.size w w') :
    SvdP w (s, f) (.returned (.tuple #[.agg #[.int .i64 s.step, .int .i64 s.phase, .bool s.fresh, v1, v2], .int .i64 f])) w' := ⟨_, _, rfl, h1, h2, hb⟩
end Go.Proofs.YthakibcfmbkpkaaDoor

namespace Go.Proofs.YthakibcfmbkpkaaDoor
set_option maxRecDepth 100000
open Go.ChangeShapes Go.WideShapes Go.ChangeAt Go.RowKit

/-- One slot more is looked at. -/
def stepN (m : Int) (c r : SvS × Int) : SvS × Int := if r.2 = 0 ∧ r.1.step ≤ m then (if c.2 ≠ 0 ∨ c.1.step < r.1.step then (r.1, 0) else c) else c
def curN (fs : List FileL) (m : Int) : Nat → SvS × Int
  | 0 => (sv0, 7)
  | k + 1 => stepN m (curN fs m k) (loadE fs k)
def newE (fs : List FileL) (m : Int) : SvS × Int := if mayB fs = true then curN fs m 2 else (sv0, 9)
theorem newE_no {fs : List FileL} {m : Int} (h : mayB fs = false) : newE fs m = (sv0, 9) := by rw [newE, if_neg (by rw [h]; decide)]
theorem newE_yes {fs : List FileL} {m : Int} (h : mayB fs = true) : newE fs m = curN fs m 2 := by rw [newE, if_pos h]
theorem curN_skip {fs : List FileL} {m : Int} {k : Nat} (h : ¬ ((loadE fs k).2 = 0 ∧ (loadE fs k).1.step ≤ m)) : curN fs m (k + 1) = curN fs m k := by
  show stepN _ _ _ = _
  rw [stepN, if_neg h]
theorem curN_take {fs : List FileL} {m : Int} {k : Nat} (h : (loadE fs k).2 = 0 ∧ (loadE fs k).1.step ≤ m) (h2 : (curN fs m k).2 ≠ 0 ∨ (curN fs m k).1.step < (loadE fs k).1.step) : curN fs m (k + 1) = ((loadE fs k).1, 0) := by
  show stepN _ _ _ = _
  rw [stepN, if_pos h, if_pos h2]
theorem curN_keep {fs : List FileL} {m : Int} {k : Nat} (h2 : ¬ ((curN fs m k).2 ≠ 0 ∨ (curN fs m k).1.step < (loadE fs k).1.step)) : curN fs m (k + 1) = curN fs m k := by
  show stepN _ _ _ = _
  rw [stepN, if_neg h2]
  split <;> rfl
theorem getR_nine : ∀ (xs : List Int) (i : Nat) (n : Int), (getR i n xs).2.2 ≠ 9
  | [], _, _ => by simp [getR]
  | x :: r, i, n => by
    rw [getR]
    split
    · simp
    · split
      · exact getR_nine r _ _
      · split <;> simp
theorem get_nine (xs : List Int) : (get xs).2.2 ≠ 9 := getR_nine xs 0 0
theorem unwrap_nine (b : List Int) : (unwrapF b).2.2 ≠ 9 := by
  unfold unwrapF
  split
  · exact get_nine b
  · split
    · simp
    · split
      · simp
      · split <;> simp
theorem decS_nine (b : List Int) : (decS b).2 ≠ 9 := by
  unfold decS
  split
  · split <;> simp
  · exact unwrap_nine b
theorem loadE_state {fs : List FileL} (h : mayB fs = false) (k : Nat) (hk : k < 2) : loadE fs k = (sv0, 9) := by
  have h1 := readF_may (n := slotB k) h
  rw [loadE_err ⟨by omega, by omega⟩ (by rw [h1]; decide), h1]
theorem loadE_nine {fs : List FileL} (h : mayB fs = true) (k : Nat) (hk : k < 2) : (loadE fs k).2 ≠ 9 := by
  have hn : (0 : Int) ≤ (k : Int) ∧ (k : Int) ≤ 1 := ⟨by omega, by omega⟩
  by_cases h2 : (readF fs (slotB k)).2 = 0
  · rw [loadE_yes hn h2]
    exact decS_nine _
  · rw [loadE_err hn h2]
    unfold readF
    rw [if_pos h]
    split <;> simp
end Go.Proofs.YthakibcfmbkpkaaDoor

namespace Go.Proofs.YthakibcfmbkpkaaDoor
set_option maxRecDepth 100000
open Go.ChangeShapes Go.WideShapes Go.ChangeAt Go.RowKit

set_option maxHeartbeats 4000000 in
set_option maxRecDepth 100000 in
theorem ckLoad_any (v : Value) (fs : List FileL) (n : Int) (w : World) (h : DiskR w v fs) (hg : Good fs) :
    Calls Tryd.prog 10 #[.agg #[v], .int .i64 n] w (SvdP w (loadE fs n)) := by
  have HD : Hid (DiskR w v fs) := h
  have HG : Hid (Good fs) := hg
  obtain ⟨a, cap, rfl⟩ : ∃ a c, v = .slice a fs.length c := by obtain ⟨a, c, e, _⟩ := h; exact ⟨a, c, e⟩
  clear h hg
  obtain ⟨W0, hW0⟩ : ∃ W0, W0 = (w.alloc (.cells #[.slice a fs.length cap] 24)).alloc (.cells #[.int .i64 0, .int .i64 0, .bool false, .slice none 0 0, .slice none 0 0] 34) := ⟨_, rfl⟩
  obtain ⟨Q0, M0, B0, s1, s2⟩ := boxes2 w #[.slice a fs.length cap] #[.int .i64 0, .int .i64 0, .bool false, .slice none 0 0, .slice none 0 0] 24 34 W0 hW0
  have HK : Hid (∀ X, Below W0.heap.size W0 X → BX 24 X w.heap.size #[.slice a fs.length cap] ∧ BX 34 X (w.heap.size + 1) #[.int .i64 0, .int .i64 0, .bool false, .slice none 0 0, .slice none 0 0] ∧ Below w.heap.size w X ∧ DiskR X (.slice a fs.length cap) fs) := fun X hX => by
    have hb := B0.trans (hX.mono (show w.heap.size ≤ W0.heap.size by omega))
    exact ⟨Q0.below hX (by omega), M0.below hX (by omega), hb, HD.out.below hb (Nat.le_refl _)⟩
  have A0 : Hid (Below W0.heap.size W0 W0) := Below.refl _ _
  obtain ⟨q0, _⟩ := Q0.all1
  clear Q0 M0 B0
  have HN : Hid (∀ f, loadE fs n = (sv0, f) → ∀ w', Below w.heap.size w w' → SvdP w (loadE fs n) (.returned (.tuple #[.agg #[.int .i64 0, .int .i64 0, .bool false, .slice none 0 0, .slice none 0 0], .int .i64 f])) w') := fun f h w' hb => by rw [h]; exact SvdP.no hb
  have HY : Hid (∀ s f, loadE fs n = (s, f) → ∀ v1 v2 w', w'.ownsRow w.heap.size 73 2 v1 s.vals.length (s.vals.flatMap encM) → w'.ownsRow w.heap.size 75 2 v2 s.mail.length (s.mail.flatMap encM) → Below w.heap.size w w' → SvdP w (loadE fs n) (.returned (.tuple #[.agg #[.int .i64 s.step, .int .i64 s.phase, .bool s.fresh, v1, v2], .int .i64 f])) w') := fun s f h v1 v2 w' h1 h2 h3 => by rw [h]; exact SvdP.at h1 h2 h3
  generalize SvdP w (loadE fs n) = P at *
  by_cases hn : 0 ≤ n ∧ n ≤ 1
  case neg =>
    have HE : Hid (∀ w', Below w.heap.size w w' → P (.returned (.tuple #[.agg #[.int .i64 0, .int .i64 0, .bool false, .slice none 0 0, .slice none 0 0], .int .i64 2])) w') := HN.out 2 (loadE_no hn)
    have CN : Hid (∀ X, Calls Tryd.prog 16 #[.int .i64 n] X fun e w' => e = .returned (.tuple #[.string ByteArray.empty, .int .i64 2]) ∧ w' = X) := fun X => slotName_no n hn X
    clear HN HY hn
    go_enter Tryd.func10, Tryd.ntmps10
    go_upto_region 1 with fail
    rw [← hW0]
    clear hW0
    go_wp2_with fail
    refine (CN.out _).mono ?_
    rintro e w1 ⟨rfl, e1⟩
    have e1' : W0 = w1 := e1.symm
    subst e1'
    clear e1
    obtain ⟨m0, m1, m2, m3, m4⟩ := (HK.out _ A0.out).2.1.all5
    obtain ⟨f0, f1, f2, f3, f4⟩ := (HK.out _ A0.out).2.1.all5f
    have HX : Hid (P (.returned (.tuple #[.agg #[.int .i64 0, .int .i64 0, .bool false, .slice none 0 0, .slice none 0 0], .int .i64 2])) (putS W0 (w.heap.size + 1) (.int .i64 0) (.int .i64 0) (.bool false) (.slice none 0 0) (.slice none 0 0))) := HE.out _ (below_putS (HK.out _ A0.out).2.2.1 (Nat.le_succ _) _ _ _ _ _)
    have RX : Hid (BX 34 (putS W0 (w.heap.size + 1) (.int .i64 0) (.int .i64 0) (.bool false) (.slice none 0 0) (.slice none 0 0)) (w.heap.size + 1) #[.int .i64 0, .int .i64 0, .bool false, .slice none 0 0, .slice none 0 0]) := BX.putS (HK.out _ A0.out).2.1
    go_wp2_with fail
    obtain ⟨r0, r1, r2, r3, r4⟩ := RX.out.all5
    unfold putS at r0 r1 r2 r3 r4
    exact bodyPost_ret (v := .tuple #[.agg #[.int .i64 0, .int .i64 0, .bool false, .slice none 0 0, .slice none 0 0], .int .i64 2]) (by simp [results, Tryd.results10, go_sem, r0, r1, r2, r3, r4]) rfl HX.out
  have CN : Hid (∀ X, Calls Tryd.prog 16 #[.int .i64 n] X fun e w' => e = .returned (.tuple #[.string (slotB n), .int .i64 0]) ∧ w' = X) := fun X => slotName_yes n hn X
  have K1 : Hid (¬ (readF fs (slotB n)).2 = 0 → loadE fs n = (sv0, (readF fs (slotB n)).2)) := fun h => loadE_err hn h
  have K2 : Hid ((readF fs (slotB n)).2 = 0 → loadE fs n = decS (readF fs (slotB n)).1) := fun h => loadE_yes hn h
  have RB : Hid (∀ x ∈ (readF fs (slotB n)).1, 0 ≤ x ∧ x ≤ 255) := readF_bytes HG.out
  have CR : Hid (∀ X, DiskR X (.slice a fs.length cap) fs → Calls Tryd.prog 24 #[.agg #[.slice a fs.length cap], .string (slotB n)] X fun e w' => ∃ v', e = .returned (.tuple #[v', .int .i64 (readF fs (slotB n)).2]) ∧ Reads .u8 w' v' (readF fs (slotB n)).1 ∧ Below X.heap.size X w') := fun X h => read_any _ fs (slotB n) X h HG.out
  clear hn
  generalize readF fs (slotB n) = R1 at *
  obtain ⟨l, t1⟩ := R1
  simp only at K1 K2 RB CR
  generalize slotB n = sl at *
  have CD : Hid (∀ X v, Reads .u8 X v l → Calls Tryd.prog 25 #[v] X (SvdP X (decS l))) := fun X v h => ckDecode_any v l X h RB.out
  replace HN : Hid (¬ t1 = 0 → ∀ w', Below w.heap.size w w' → P (.returned (.tuple #[.agg #[.int .i64 0, .int .i64 0, .bool false, .slice none 0 0, .slice none 0 0], .int .i64 t1])) w') := fun h => HN.out t1 (K1.out h)
  have HY2 : Hid (t1 = 0 → ∀ s f, decS l = (s, f) → ∀ v1 v2 w', w'.ownsRow w.heap.size 73 2 v1 s.vals.length (s.vals.flatMap encM) → w'.ownsRow w.heap.size 75 2 v2 s.mail.length (s.mail.flatMap encM) → Below w.heap.size w w' → P (.returned (.tuple #[.agg #[.int .i64 s.step, .int .i64 s.phase, .bool s.fresh, v1, v2], .int .i64 f])) w') := fun h s f h2 => HY.out s f ((K2.out h).trans h2)
  clear HY K1 K2
  generalize decS l = D at *
  obtain ⟨s, t2⟩ := D
  by_cases ht : t1 = 0
  case neg =>
    have HE : Hid (∀ w', Below w.heap.size w w' → P (.returned (.tuple #[.agg #[.int .i64 0, .int .i64 0, .bool false, .slice none 0 0, .slice none 0 0], .int .i64 t1])) w') := HN.out ht
    have tn : (t1 != 0) = true := by simp [ht]
    clear HN HY2 ht CD
    go_enter Tryd.func10, Tryd.ntmps10
    go_upto_region 1 with fail
    rw [← hW0]
    clear hW0
    go_wp2_with fail
    refine (CN.out _).mono ?_
    rintro e w1 ⟨rfl, e1⟩
    have e1' : W0 = w1 := e1.symm
    subst e1'
    clear e1
    go_wp2_with fail
    refine (CR.out _ (HK.out _ A0.out).2.2.2).mono ?_
    rintro e w2 ⟨v2, rfl, hr2, hb2⟩
    have A2 : Hid (Below W0.heap.size W0 w2) := hb2
    have R2 : Hid (Reads .u8 w2 v2 l) := hr2
    obtain ⟨xa, xc, rfl⟩ : ∃ a c, v2 = .slice a l.length c := by obtain ⟨a, c, e, _⟩ := hr2; exact ⟨a, c, e⟩
    clear hr2 hb2 q0 CR CN
    obtain ⟨m0, m1, m2, m3, m4⟩ := (HK.out _ A2.out).2.1.all5
    obtain ⟨f0, f1, f2, f3, f4⟩ := (HK.out _ A2.out).2.1.all5f
    have HX : Hid (P (.returned (.tuple #[.agg #[.int .i64 0, .int .i64 0, .bool false, .slice none 0 0, .slice none 0 0], .int .i64 t1])) (putS w2 (w.heap.size + 1) (.int .i64 0) (.int .i64 0) (.bool false) (.slice none 0 0) (.slice none 0 0))) := HE.out _ (below_putS (HK.out _ A2.out).2.2.1 (Nat.le_succ _) _ _ _ _ _)
    have RX : Hid (BX 34 (putS w2 (w.heap.size + 1) (.int .i64 0) (.int .i64 0) (.bool false) (.slice none 0 0) (.slice none 0 0)) (w.heap.size + 1) #[.int .i64 0, .int .i64 0, .bool false, .slice none 0 0, .slice none 0 0]) := BX.putS (HK.out _ A2.out).2.1
    go_wp2_with fail
    obtain ⟨r0, r1, r2, r3, r4⟩ := RX.out.all5
    unfold putS at r0 r1 r2 r3 r4
    exact bodyPost_ret (v := .tuple #[.agg #[.int .i64 0, .int .i64 0, .bool false, .slice none 0 0, .slice none 0 0], .int .i64 t1]) (by simp [results, Tryd.results10, go_sem, r0, r1, r2, r3, r4]) rfl HX.out
  have HE : Hid (∀ v1 v2 w', w'.ownsRow w.heap.size 73 2 v1 s.vals.length (s.vals.flatMap encM) → w'.ownsRow w.heap.size 75 2 v2 s.mail.length (s.mail.flatMap encM) → Below w.heap.size w w' → P (.returned (.tuple #[.agg #[.int .i64 s.step, .int .i64 s.phase, .bool s.fresh, v1, v2], .int .i64 t2])) w') := HY2.out ht s t2 rfl
  subst ht
  clear HN HY2
  go_enter Tryd.func10, Tryd.ntmps10
  go_upto_region 1 with fail
  rw [← hW0]
  clear hW0
  go_wp2_with fail
  refine (CN.out _).mono ?_
  rintro e w1 ⟨rfl, e1⟩
  have e1' : W0 = w1 := e1.symm
  subst e1'
  clear e1
  go_wp2_with fail
  refine (CR.out _ (HK.out _ A0.out).2.2.2).mono ?_
  rintro e w2 ⟨v2, rfl, hr2, hb2⟩
  have A2 : Hid (Below W0.heap.size W0 w2) := hb2
  have R2 : Hid (Reads .u8 w2 v2 l) := hr2
  obtain ⟨xa, xc, rfl⟩ : ∃ a c, v2 = .slice a l.length c := by obtain ⟨a, c, e, _⟩ := hr2; exact ⟨a, c, e⟩
  clear hr2 hb2 q0 CR CN
  go_wp2_with fail
  refine (CD.out _ _ R2.out).mono ?_
  rintro e w4 ⟨u1, u2, rfl, hu1, hu2, hb4⟩
  obtain ⟨ua, uc, rfl⟩ := (RowK.own encM_len hu1 : MlR w4 u1 s.vals).shape
  obtain ⟨ya, yc, rfl⟩ := (RowK.own encM_len hu2 : MlR w4 u2 s.mail).shape
  have hs2 := A2.out.size
  have A4 : Hid (Below W0.heap.size W0 w4) := A2.out.trans (hb4.mono hs2)
  have O1 : Hid (w4.ownsRow W0.heap.size 73 2 (.slice ua s.vals.length uc) s.vals.length (s.vals.flatMap encM)) := own_lower hu1 hs2
  have O2 : Hid (w4.ownsRow W0.heap.size 75 2 (.slice ya s.mail.length yc) s.mail.length (s.mail.flatMap encM)) := own_lower hu2 hs2
  clear hu1 hu2 hb4 hs2 R2 CD
  obtain ⟨m0, m1, m2, m3, m4⟩ := (HK.out _ A4.out).2.1.all5
  obtain ⟨f0, f1, f2, f3, f4⟩ := (HK.out _ A4.out).2.1.all5f
  have HX : Hid (P (.returned (.tuple #[.agg #[.int .i64 s.step, .int .i64 s.phase, .bool s.fresh, .slice ua s.vals.length uc, .slice ya s.mail.length yc], .int .i64 t2])) (putS w4 (w.heap.size + 1) (.int .i64 s.step) (.int .i64 s.phase) (.bool s.fresh) (.slice ua s.vals.length uc) (.slice ya s.mail.length yc))) := HE.out _ _ _ (own_lower (own_off O1.out (HK.out _ A4.out).2.1 (by decide) (kept_putS w4 (w.heap.size + 1) _ _ _ _ _)) (by omega)) (own_lower (own_off O2.out (HK.out _ A4.out).2.1 (by decide) (kept_putS w4 (w.heap.size + 1) _ _ _ _ _)) (by omega)) (below_putS (HK.out _ A4.out).2.2.1 (Nat.le_succ _) _ _ _ _ _)
  have RX : Hid (BX 34 (putS w4 (w.heap.size + 1) (.int .i64 s.step) (.int .i64 s.phase) (.bool s.fresh) (.slice ua s.vals.length uc) (.slice ya s.mail.length yc)) (w.heap.size + 1) #[.int .i64 s.step, .int .i64 s.phase, .bool s.fresh, .slice ua s.vals.length uc, .slice ya s.mail.length yc]) := BX.putS (HK.out _ A4.out).2.1
  go_wp2_with fail
  obtain ⟨r0, r1, r2, r3, r4⟩ := RX.out.all5
  unfold putS at r0 r1 r2 r3 r4
  exact bodyPost_ret (v := .tuple #[.agg #[.int .i64 s.step, .int .i64 s.phase, .bool s.fresh, .slice ua s.vals.length uc, .slice ya s.mail.length yc], .int .i64 t2]) (by simp [results, Tryd.results10, go_sem, r0, r1, r2, r3, r4]) rfl HX.out
end Go.Proofs.YthakibcfmbkpkaaDoor
