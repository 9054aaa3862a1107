/-
  Contracts of the reader of package ckpt: number, count.
-/
import Derived.Test.YthakibcfmbkpkaaDoorSavedParse
import Derived.Test.YthakibcfmbkpkaaDoorGetWalk
import Derived.Test.YthakibcfmbkpkaaDoorCutBytes
import Derived.Test.YthakibcfmbkpkaaDoorBoxMem
namespace Go.Proofs.YthakibcfmbkpkaaDoor
set_option maxRecDepth 100000
open Go.ChangeShapes Go.WideShapes Go.ChangeAt Go.RowKit

/-- A reader in the block q: what is left lies below it. -/
def RdC (w : World) (q : Nat) (l : List Int) : Prop := ∃ v, BX 85 w q #[v] ∧ Reads .u8 w v l ∧ (∀ a n c, v = .slice (some a) n c → a.block < q) ∧ ∀ x ∈ l, 0 ≤ x ∧ x ≤ 255
theorem RdC.lt {w : World} {q : Nat} {l : List Int} (h : RdC w q l) : q < w.heap.size := by obtain ⟨v, hq, _⟩ := h; exact hq.lt
theorem RdC.kept {S : Nat → Prop} {w w' : World} {q : Nat} {l : List Int} (h : RdC w q l) (hk : Kept S w w') (hs : ∀ k, k ≤ q → ¬ S k) : RdC w' q l := by
  obtain ⟨v, h1, h2, h3, h4⟩ := h
  exact ⟨v, h1.kept hk (hs q (Nat.le_refl _)), hk.reads h2 fun a n c e => hs _ (Nat.le_of_lt (h3 a n c e)), h3, h4⟩
theorem add_blk (p : Addr) (u : Nat) : (p.add u).block = p.block := by unfold Addr.add; split <;> rfl

set_option maxHeartbeats 800000 in
set_option maxRecDepth 100000 in
theorem cNumber_any (q : Nat) (l : List Int) (w : World) (h : RdC w q l) :
    Calls Tryd.prog 59 #[.pointer (some ⟨q, 0, none⟩)] w fun e w' => e = .returned (.int .i64 (numC l).1) ∧ RdC w' q (numC l).2 ∧ Kept (fun k => k = q) w w' ∧ w'.heap.size = w.heap.size := by
  obtain ⟨v, hq, hr, hb, hx⟩ := h
  have HG : Hid (∀ X, Reads .u8 X v l → Calls Tryd.prog 72 #[v] X fun e w' => e = .returned (.tuple #[.int .u64 (get l).1, .int .i64 (get l).2.1, .int .i64 (get l).2.2]) ∧ w' = X) := fun X hX => get_any v l X hX hx
  have HU : (get l).2.1 ≤ l.length ∧ (0 ≤ (get l).1 ∧ (get l).1 ≤ 18446744073709551615) := by
    rcases get_inv hx with ⟨e, he, hne⟩ | ⟨n, t, he, hl, h0, h1⟩
    · rw [he]; simp
    · rw [he]
      refine ⟨?_, h0, h1⟩
      show (put n).length ≤ l.length
      rw [hl]; simp
  obtain ⟨hu, hn0, hn1⟩ := HU
  have HR : Hid (Reads .u8 w v l) := hr
  obtain ⟨a, cap, rfl, hc, hm, ha, hcell⟩ := hr
  have HD : Hid (Reads .u8 w (cutV a l.length cap (get l).2.1) (l.drop (get l).2.1)) := reads_cutV HR.out hu
  have HC : Hid (numC l = (IntKind.i64.wrap (get l).1, l.drop (get l).2.1)) := rfl
  have HX : Hid (∀ x ∈ l.drop (get l).2.1, 0 ≤ x ∧ x ≤ 255) := fun x h => hx x (List.mem_of_mem_drop h)
  have HB : Hid (∀ a' n c, cutV a l.length cap (get l).2.1 = .slice (some a') n c → a'.block < q) := fun a' n c e => by
    unfold cutV at e
    injection e with e _ _
    cases a with
    | none => split at e <;> cases e
    | some p =>
      have := hb p _ _ rfl
      split at e
      · injection e with e; subst e; exact this
      · injection e with e; subst e; rw [show ((fun x : Addr => x.add (get l).2.1) p).block = p.block from add_blk _ _]; exact this
  have HQ : Hid (BX 85 w q #[.slice a l.length cap]) := hq
  have hrun : ∀ X : World, (Instr.slice 44 (.slice a l.length cap) (some (.int .i64 ((get l).2.1 : Int))) none none).run Tryd.prog X = .ok (cutV a l.length cap (get l).2.1) X := fun X => run_cutV a l.length cap (get l).2.1 hu X
  obtain ⟨c0, f0⟩ := hq.all1
  obtain ⟨sa, sl, sc, hsh⟩ : ∃ sa sl sc, cutV a l.length cap (get l).2.1 = .slice sa sl sc := ⟨_, _, _, rfl⟩
  rw [hsh] at HD HB hrun
  rw [HC.out]
  clear HC hq hcell hx hb hsh
  generalize (get l).2.2 = ge at *
  generalize hgu : (get l).2.1 = u at *
  generalize (get l).1 = gn at *
  clear hgu
  unfold maxLen at hm
  go_enter Tryd.func59, Tryd.ntmps59
  go_wp2_with fail
  refine (HG.out _ HR.out).mono ?_
  rintro e w1 ⟨rfl, e1⟩
  have e1' : w = w1 := e1.symm
  subst e1'
  clear e1
  go_wp2_with fail
  go_ret
  refine ⟨?_, ⟨_, HQ.out.set 0 _, ?_, HB.out, HX.out⟩, Kept.box _ _ _ _, ?_⟩
  · simp [IntKind.wrap_i64, wrap64]
  · exact (Kept.box w q 0 (.slice sa sl sc)).reads HD.out fun a n c e h => by have h1 := HB.out a n c e; have h2 : a.block = q := h; omega
  · simp

set_option maxHeartbeats 800000 in
set_option maxRecDepth 100000 in
theorem cCount_any (q : Nat) (l : List Int) (w : World) (h : RdC w q l) :
    Calls Tryd.prog 60 #[.pointer (some ⟨q, 0, none⟩)] w fun e w' => e = .returned (.int .i64 (cntC l).1) ∧ RdC w' q (cntC l).2 ∧ Kept (fun k => k = q) w w' ∧ w'.heap.size = w.heap.size := by
  have HC : Hid (cntC l = (min (numC l).1 ((numC l).2.length : Int), (numC l).2)) := rfl
  have HN : Hid (∀ X, RdC X q l → Calls Tryd.prog 59 #[.pointer (some ⟨q, 0, none⟩)] X fun e w' => e = .returned (.int .i64 (numC l).1) ∧ RdC w' q (numC l).2 ∧ Kept (fun k => k = q) X w' ∧ w'.heap.size = X.heap.size) := fun X hX => cNumber_any q l X hX
  have HH : Hid (RdC w q l) := h
  rw [HC.out]
  clear HC h
  generalize numC l = N at *
  obtain ⟨n, r⟩ := N
  go_enter Tryd.func60, Tryd.ntmps60
  go_wp2_with fail
  refine (HN.out _ HH.out).mono ?_
  rintro e w1 ⟨rfl, h1, h2, h3⟩
  have R1 : Hid (RdC w1 q r) := h1
  have K1 : Hid (Kept (fun k => k = q) w w1 ∧ w1.heap.size = w.heap.size) := ⟨h2, h3⟩
  obtain ⟨v, hq, hr, _, _⟩ := h1
  obtain ⟨a, cap, rfl, hc, hm, _, _⟩ := hr
  obtain ⟨c0, f0⟩ := hq.all1
  unfold maxLen at hm
  clear h2 h3 hq
  go_wp2_with fail
  go_ret
  refine ⟨?_, R1.out, K1.out⟩
  simp
end Go.Proofs.YthakibcfmbkpkaaDoor
