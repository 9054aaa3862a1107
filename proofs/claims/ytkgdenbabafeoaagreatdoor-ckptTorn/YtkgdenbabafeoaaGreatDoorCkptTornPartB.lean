/-
  Contract of ckpt.parse: what is made of a payload.
  Contract of frame.Unwrap: payload, count of bytes and error are those of P2.3; nothing that was there is written.
  Contract of ckpt.Decode: P14.3.
  P14.7 as a function: what is saved in a slot.
  P14.8 as a function: the newest that is not too new.
  Contracts of disk.Sync, of what it does, and of the document's own SyncedTo: what P3.4 says.
  Contracts of disk.Rename and of what it does: what P3.5 says.
  P14.6 as a function: synced, and renamed to a slot.
  Contracts of disk.Crash and of what it does: what P3.6 says.
  What pacelinekeep's kept makes of raw numbers may be saved; what comes of put, seal, crash and load, on a disk that has nothing else.
  slices.SortFunc: the laying of its contract at this program (numbers of functions and types, each held by the kernel).
  Contract of slices.SortFunc with merge's compare, on a row of mail of the call's own; merge.Sort.
  Contract of pacelinekeep's own sorted.
  What is saved, as it comes in: what its data say of memory.
  Contract of pacelinekeep's own kept: what may be saved, out of raw numbers.
  Contract of ckpt.Seal.
  A region that draws its order, and stores into what it has loaded: a condition that holds until an operation comes up that waits for all loads.
  Contract of pacelinekeep's own sealed: a disk with two things sealed.
  What is kept, in raw numbers, as it comes in.
  Contract of pacelinekeep's own sameMail.
  Contracts of pacelinekeep's own sameMail and sameSaved: true where both are the same.
  The wrap for a law whose row lists package variables: the reach, the world's shape and the list are handed over.
  The door's own world meets the lists of the keeping laws of chapter 14 (no walk of these reads a listed variable).
  Contract of ckpt.Load.
-/
import Derived.Test.YtkgdenbabafeoaaGreatDoorCkptTornPartA
import Derived.Test.YtkgdenbabafeoaaGreatDoorMailMem
import Derived.Test.YtkgdenbabafeoaaGreatDoorOwnOff
import Derived.Test.YtkgdenbabafeoaaGreatDoorRegionCall
import Derived.Shelf.Abstract
import Derived.Deep.CutRange
import Derived.Test.YtkgdenbabafeoaaGreatDoorOwnSlice
import Derived.Test.YtkgdenbabafeoaaGreatDoorPostMail
import Derived.Shelf.SlSortCmp.NoneTotal
import Derived.Test.YtkgdenbabafeoaaGreatDoorProg
import Derived.Test.YtkgdenbabafeoaaGreatDoorMailCmp
import Derived.Test.YtkgdenbabafeoaaGreatDoorMailRes
import Derived.Shelf.SlSortCmp.QuietGrown
import Derived.Test.YtkgdenbabafeoaaGreatDoorTwoOpen
import Derived.Test.YtkgdenbabafeoaaGreatDoorSavedMath
import Derived.Test.YtkgdenbabafeoaaGreatDoorRegionLast
import Derived.Test.YtkgdenbabafeoaaGreatDoorBoxMem
import Derived.OrdersHeld
import Derived.Test.YtkgdenbabafeoaaGreatDoorMailMath
import Derived.Deep.QuietTactic
import Derived.BigQuiet
import Derived.Test.YtkgdenbabafeoaaGreatDoorRows
import Derived.WalkKit
import Derived.ProofKit
import Derived.OpenShut
import Derived.SizedLaws
import Derived.HandedShaped
import Derived.LaidMore
import Derived.Stop.Joined
import Derived.Lib.LaidTab
import Derived.Stop.LaidErr

namespace Go.Proofs.YtkgdenbabafeoaaGreatDoor
set_option maxRecDepth 100000
open Go.ChangeShapes Go.WideShapes Go.ChangeAt Go.RowKit

theorem wrap_numC (l : List Int) : IntKind.i64.wrap ((numC l).1 - 0) = (numC l).1 := by
  show IntKind.i64.wrap (IntKind.i64.wrap (get l).1 - 0) = IntKind.i64.wrap (get l).1
  rw [IntKind.wrap_i64, IntKind.wrap_i64]
  omega
theorem pairsK_zero (k : Nat) (l : List Int) : pairsK 0 (k + 1) l = ((pairsK 0 k l).1 ++ [((numC (pairsK 0 k l).2).1, (numC (numC (pairsK 0 k l).2).2).1)], (numC (numC (pairsK 0 k l).2).2).2) := by
  show ((pairsK 0 k l).1 ++ [(IntKind.i64.wrap ((numC (pairsK 0 k l).2).1 - 0), IntKind.i64.wrap ((numC (numC (pairsK 0 k l).2).2).1 - 0))], (numC (numC (pairsK 0 k l).2).2).2) = _
  rw [wrap_numC, wrap_numC]
/-- While a payload is gone through: the reader in the block B + 1, what is made in B + 2, its rows behind. -/
structure PsI (w X : World) (B : Nat) (l : List Int) (a b : Int) (c : Bool) (vv vm : Value) (vs ms : List Ml) : Prop where
  rd : RdC X (B + 1) l
  box : BX 28 X (B + 2) #[.int .i64 a, .int .i64 b, .bool c, vv, vm]
  vals : X.ownsRow (B + 3) 53 2 vv vs.length (vs.flatMap encM)
  mail : X.ownsRow (B + 3) 62 2 vm ms.length (ms.flatMap encM)
  low : Below B w X
  zero : BX 28 X B #[.int .i64 0, .int .i64 0, .bool false, .slice none 0 0, .slice none 0 0]
  size : B + 3 ≤ X.heap.size
section
variable {w X X' : World} {B : Nat} {l l' : List Int} {a b : Int} {c : Bool} {vv vm v' : Value} {vs ms l2 : List Ml}
theorem PsI.drew (h : PsI w X B l a b c vv vm vs ms) : PsI w X.drew B l a b c vv vm vs ms := ⟨h.rd.kept (Kept.refl (fun _ => False) X).drew (fun _ _ h => h), h.box, h.vals, h.mail, h.low.drew, h.zero, h.size⟩
theorem PsI.num (h : PsI w X B l a b c vv vm vs ms) (hr : RdC X' (B + 1) l') (hk : Kept (fun k => k = B + 1) X X') (hs : X'.heap.size = X.heap.size) : PsI w X' B l' a b c vv vm vs ms :=
  ⟨hr, h.box.kept hk (by omega), hk.own h.vals fun g hg e => by have := (h.vals.lt g hg).1; omega, hk.own h.mail fun g hg e => by have := (h.mail.lt g hg).1; omega, h.low.trans (hk.below (by have := h.size; omega) fun k e => by omega), h.zero.kept hk (by omega), by have := h.size; omega⟩
theorem PsI.alloc (h : PsI w X B l a b c vv vm vs ms) (ob : Obj) : PsI w (X.alloc ob) B l a b c vv vm vs ms :=
  ⟨h.rd.kept ((Kept.refl (fun _ => False) X).alloc ob) (fun _ _ h => h), h.box.below (below_alloc _ _) h.box.lt, h.vals.alloc _, h.mail.alloc _, h.low.alloc (by have := h.size; omega) _, h.zero.below (below_alloc _ _) h.zero.lt, by have := h.size; simp; omega⟩
theorem PsI.setV (h : PsI w X B l a b c vv vm vs ms) (hg : X.grownBy X' vv.ownBlock) (ho : X'.ownsRow (B + 3) 53 2 v' l2.length (l2.flatMap encM)) : BX 28 X' (B + 2) #[.int .i64 a, .int .i64 b, .bool c, vv, vm] ∧ PsI w (X'.setCell ⟨B + 2, 3, none⟩ v') B l a b c v' vm l2 ms := by
  have hk : Kept (fun k => B + 3 ≤ k) X X' := (Kept.refl _ X).grown hg fun k e => .inl (h.vals.lt k e).1
  have hs := h.size
  have hb := h.box.kept hk (by omega)
  have hm := h.mail.kept hg (own_apart h.mail h.vals (by decide))
  have hl := h.low.trans (hk.below (B := B) (by omega) fun k e => by omega)
  exact ⟨hb, (h.rd.kept hk (fun k h1 h2 => by omega)).kept (Kept.box X' (B + 2) 3 v') (fun k h1 h2 => by omega), hb.set 3 v', hb.own ho (by decide), hb.own hm (by decide), hl.setCell (by simp) _, (h.zero.kept hk (by omega)).other (by omega), by have := hk.size; simp; omega⟩
theorem PsI.setM (h : PsI w X B l a b c vv vm vs ms) (hg : X.grownBy X' vm.ownBlock) (ho : X'.ownsRow (B + 3) 62 2 v' l2.length (l2.flatMap encM)) : BX 28 X' (B + 2) #[.int .i64 a, .int .i64 b, .bool c, vv, vm] ∧ PsI w (X'.setCell ⟨B + 2, 4, none⟩ v') B l a b c vv v' vs l2 := by
  have hk : Kept (fun k => B + 3 ≤ k) X X' := (Kept.refl _ X).grown hg fun k e => .inl (h.mail.lt k e).1
  have hs := h.size
  have hb := h.box.kept hk (by omega)
  have hm := h.vals.kept hg (own_apart h.vals h.mail (by decide))
  have hl := h.low.trans (hk.below (B := B) (by omega) fun k e => by omega)
  exact ⟨hb, (h.rd.kept hk (fun k h1 h2 => by omega)).kept (Kept.box X' (B + 2) 4 v') (fun k h1 h2 => by omega), hb.set 4 v', hb.own hm (by decide), hb.own ho (by decide), hl.setCell (by simp) _, (h.zero.kept hk (by omega)).other (by omega), by have := hk.size; simp; omega⟩
end

set_option maxHeartbeats 4000000 in
set_option maxRecDepth 100000 in
theorem parse_any (v : Value) (l : List Int) (w : World) (hr : Reads .u8 w v l) (hb : ∀ a n c, v = .slice (some a) n c → a.block < w.heap.size) (hx : ∀ x ∈ l, 0 ≤ x ∧ x ≤ 255) (hl : l.length ≤ 1000000) :
    Calls Tryz.prog 24 #[v] w fun e w' => ∃ v1 v2, e = .returned (.agg #[.int .i64 (parseC l).step, .int .i64 (parseC l).phase, .bool (parseC l).fresh, v1, v2]) ∧ w'.ownsRow w.heap.size 53 2 v1 (parseC l).vals.length ((parseC l).vals.flatMap encM) ∧ w'.ownsRow w.heap.size 62 2 v2 (parseC l).mail.length ((parseC l).mail.flatMap encM) ∧ Below w.heap.size w w' := by
  obtain ⟨va, vc, rfl⟩ : ∃ a c, v = .slice a l.length c := by obtain ⟨a, c, e, _⟩ := hr; exact ⟨a, c, e⟩
  have HN : Hid (∀ X l, RdC X (w.heap.size + 1) l → Calls Tryz.prog 46 #[.pointer (some ⟨w.heap.size + 1, 0, none⟩)] X fun e w' => ∃ v, e = .returned v ∧ (v = .int .i64 (numC l).1 ∧ RdC w' (w.heap.size + 1) (numC l).2 ∧ Kept (fun k => k = w.heap.size + 1) X w' ∧ w'.heap.size = X.heap.size)) := fun X l hX => (cNumber_any _ l X hX).mono fun e w' h => ⟨_, h.1, rfl, h.2⟩
  have HC : Hid (∀ X l, RdC X (w.heap.size + 1) l → Calls Tryz.prog 47 #[.pointer (some ⟨w.heap.size + 1, 0, none⟩)] X fun e w' => e = .returned (.int .i64 (cntC l).1) ∧ RdC w' (w.heap.size + 1) (cntC l).2 ∧ Kept (fun k => k = w.heap.size + 1) X w' ∧ w'.heap.size = X.heap.size) := fun X l hX => cCount_any _ l X hX
  have en : ∀ args w, (callFunc 46 args).run Tryz.prog w = .ok (.enter 46 args) w := enters_of Tryz.func46 (by kernel_rfl) rfl
  obtain ⟨W0, hW0⟩ : ∃ W0, W0 = (w.alloc (.cells #[.int .i64 0, .int .i64 0, .bool false, .slice none 0 0, .slice none 0 0] 28)).alloc (.cells #[.slice va l.length vc] 91) := ⟨_, rfl⟩
  obtain ⟨Z0, Q0, B0, s1, s2⟩ := boxes2 w #[.int .i64 0, .int .i64 0, .bool false, .slice none 0 0, .slice none 0 0] #[.slice va l.length vc] 28 91 W0 hW0
  have R0 : Hid (RdC W0 (w.heap.size + 1) l) := ⟨_, Q0, hr.below B0 (Nat.le_refl _), fun a n c e => by have := hb a n c e; omega, hx⟩
  have ZH : Hid (BX 28 W0 w.heap.size #[.int .i64 0, .int .i64 0, .bool false, .slice none 0 0, .slice none 0 0]) := Z0
  have BH : Hid (Below w.heap.size w W0) := B0
  have LL : Hid (l.length ≤ 1000000) := hl
  obtain ⟨R, hR⟩ : ∃ R, R = parseC l := ⟨_, rfl⟩
  have HP : Hid (R = ⟨(numC l).1, (numC (numC l).2).1, (numC (numC (numC l).2).2).1 == 1, (pairsK 1 (cntC (numC (numC (numC l).2).2).2).1.toNat (cntC (numC (numC (numC l).2).2).2).2).1, (pairsK 0 (cntC (pairsK 1 (cntC (numC (numC (numC l).2).2).2).1.toNat (cntC (numC (numC (numC l).2).2).2).2).2).1.toNat (cntC (pairsK 1 (cntC (numC (numC (numC l).2).2).2).1.toNat (cntC (numC (numC (numC l).2).2).2).2).2).2).1⟩) := hR
  rw [← hR]
  clear hR
  have L1 := numC_len l
  have L2 := numC_len (numC l).2
  have L3 := numC_len (numC (numC l).2).2
  clear Z0 Q0 B0 hr hb hx hl
  go_enter Tryz.func24, Tryz.ntmps24
  go_upto_region 2 with fail
  rw [← hW0]
  clear hW0
  have N1 : Hid (∀ X, RdC X (w.heap.size + 1) l → Calls Tryz.prog 46 #[.pointer (some ⟨w.heap.size + 1, 0, none⟩)] X fun e w' => e = .returned (.int .i64 (numC l).1) ∧ RdC w' (w.heap.size + 1) (numC l).2 ∧ Kept (fun k => k = w.heap.size + 1) X w' ∧ w'.heap.size = X.heap.size) := fun X hX => cNumber_any _ _ X hX
  have N2 : Hid (∀ X, RdC X (w.heap.size + 1) (numC l).2 → Calls Tryz.prog 46 #[.pointer (some ⟨w.heap.size + 1, 0, none⟩)] X fun e w' => e = .returned (.int .i64 (numC (numC l).2).1) ∧ RdC w' (w.heap.size + 1) (numC (numC l).2).2 ∧ Kept (fun k => k = w.heap.size + 1) X w' ∧ w'.heap.size = X.heap.size) := fun X hX => cNumber_any _ _ X hX
  have N3 : Hid (∀ X, RdC X (w.heap.size + 1) (numC (numC l).2).2 → Calls Tryz.prog 46 #[.pointer (some ⟨w.heap.size + 1, 0, none⟩)] X fun e w' => e = .returned (.int .i64 (numC (numC (numC l).2).2).1) ∧ RdC w' (w.heap.size + 1) (numC (numC (numC l).2).2).2 ∧ Kept (fun k => k = w.heap.size + 1) X w' ∧ w'.heap.size = X.heap.size) := fun X hX => cNumber_any _ _ X hX
  have C1 : Hid (∀ X, RdC X (w.heap.size + 1) (numC (numC (numC l).2).2).2 → Calls Tryz.prog 47 #[.pointer (some ⟨w.heap.size + 1, 0, none⟩)] X fun e w' => e = .returned (.int .i64 (cntC (numC (numC (numC l).2).2).2).1) ∧ RdC w' (w.heap.size + 1) (cntC (numC (numC (numC l).2).2).2).2 ∧ Kept (fun k => k = w.heap.size + 1) X w' ∧ w'.heap.size = X.heap.size) := fun X hX => cCount_any _ _ X hX
  have LC : (cntC (numC (numC (numC l).2).2).2).1.toNat ≤ 1000000 ∧ (cntC (numC (numC (numC l).2).2).2).2.length ≤ 1000000 := by
    have h1 := LL.out
    have h4 := numC_len (numC (numC (numC l).2).2).2
    refine ⟨?_, ?_⟩
    · show (min (numC (numC (numC (numC l).2).2).2).1 _).toNat ≤ _
      omega
    · show (numC (numC (numC (numC l).2).2).2).2.length ≤ _
      omega
  generalize numC l = n1 at *
  generalize numC n1.2 = n2 at *
  generalize numC n2.2 = n3 at *
  generalize cntC n3.2 = q1 at *
  obtain ⟨na, r1⟩ := n1
  obtain ⟨nb, r2⟩ := n2
  obtain ⟨nc, r3⟩ := n3
  obtain ⟨c1, l4⟩ := q1
  simp only at LC
  obtain ⟨LC1, LC2⟩ := LC
  clear L1 L2 L3
  go_wp2_with fail
  refine (N1.out _ R0.out).mono ?_
  rintro e w1 ⟨rfl, x1, k1, z1⟩
  have X1 : Hid (RdC w1 (w.heap.size + 1) r1) := x1
  have K1 : Hid (Kept (fun k => k = w.heap.size + 1) W0 w1) := k1
  have S1 : Hid (w1.heap.size = W0.heap.size) := z1
  clear x1 k1 z1
  go_wp2_with fail
  refine (N2.out _ X1.out).mono ?_
  rintro e w2 ⟨rfl, x1, k1, z1⟩
  have X2 : Hid (RdC w2 (w.heap.size + 1) r2) := x1
  have K2 : Hid (Kept (fun k => k = w.heap.size + 1) W0 w2) := K1.out.trans k1
  have S2 : Hid (w2.heap.size = W0.heap.size) := z1.trans S1.out
  clear x1 k1 z1
  go_wp2_with fail
  refine (N3.out _ X2.out).mono ?_
  rintro e w3 ⟨rfl, x1, k1, z1⟩
  have X3 : Hid (RdC w3 (w.heap.size + 1) r3) := x1
  have K3 : Kept (fun k => k = w.heap.size + 1) W0 w3 := K2.out.trans k1
  have z3 : w3.heap.size = w.heap.size + 2 := by have := S2.out; omega
  have S3 : Hid (w3.heap.size = w.heap.size + 2) := z3
  have B3 : Below w.heap.size w w3 := BH.out.trans (K3.below (by omega) fun k e => by omega)
  have I4 : Hid (PsI w (w3.alloc (.cells #[.int .i64 na, .int .i64 nb, .bool (nc == 1), .slice none 0 0, .slice none 0 0] 28)) w.heap.size r3 na nb (nc == 1) (.slice none 0 0) (.slice none 0 0) [] []) :=
    ⟨X3.out.kept ((Kept.refl (fun _ => False) w3).alloc _) (fun _ _ h => h), by have := BX.new 28 w3 #[.int .i64 na, .int .i64 nb, .bool (nc == 1), .slice none 0 0, .slice none 0 0]; rwa [z3] at this, World.ownsRow_nil _ _ _ _, World.ownsRow_nil _ _ _ _, B3.alloc (by omega) _, (ZH.out.kept K3 (by omega)).below (below_alloc _ _) (by omega), by simp; omega⟩
  clear x1 k1 z1 z3 B3 K3
  go_upto_region 3 with fail
  rw [S3.out]
  generalize w3.alloc (.cells #[.int .i64 na, .int .i64 nb, .bool (nc == 1), .slice none 0 0, .slice none 0 0] 28) = w4 at *
  generalize (nc == 1) = fc at *
  clear X1 X2 X3 K1 K2 S1 S2 S3 N1 N2 N3 ZH BH R0
  go_wp2_with fail
  refine (C1.out _ I4.out.rd).mono ?_
  rintro e w5 ⟨rfl, x1, k1, z1⟩
  have I5 : Hid (PsI w w5 w.heap.size l4 na nb fc (.slice none 0 0) (.slice none 0 0) [] []) := I4.out.num x1 k1 z1
  clear x1 k1 z1 I4 C1
  go_wp2_with fail
  go_loopw [13] (fun i wr => ∃ (k : Nat) (vv : Value), k ≤ c1.toNat ∧ i = .int .i64 k ∧ PsI w wr w.heap.size (pairsK 1 k l4).2 na nb fc vv (.slice none 0 0) (pairsK 1 k l4).1 []) (fun i _ => c1.toNat - (intOf i).toNat)
  case atStart => exact ⟨0, _, by omega, rfl, I5.out⟩

  case round =>
    obtain ⟨k, vx, hk, rfl, hi⟩ := hrel
    have PI0 : Hid (PsI w wr w.heap.size (pairsK 1 k l4).2 na nb fc vx (.slice none 0 0) (pairsK 1 k l4).1 []) := hi
    clear hi
    by_cases hlt : k < c1.toNat
    · have hlt' : (k : Int) < c1 := by omega
      have HS : Hid (pairsK 1 (k + 1) l4 = ((pairsK 1 k l4).1 ++ [(IntKind.i64.wrap ((numC (pairsK 1 k l4).2).1 - 1), IntKind.i64.wrap ((numC (numC (pairsK 1 k l4).2).2).1 - 1))], (numC (numC (pairsK 1 k l4).2).2).2)) := rfl
      have hG0 : (pairsK 1 k l4).1.length ≤ k ∧ k ≤ (pairsK 1 k l4).1.length := by have := pairsK_count 1 l4 k; omega
      have HN1 : Hid (∀ X, RdC X (w.heap.size + 1) (pairsK 1 k l4).2 → Calls Tryz.prog 46 #[.pointer (some ⟨w.heap.size + 1, 0, none⟩)] X fun e w' => ∃ v, e = .returned v ∧ (v = .int .i64 (numC (pairsK 1 k l4).2).1 ∧ RdC w' (w.heap.size + 1) (numC (pairsK 1 k l4).2).2 ∧ Kept (fun k => k = w.heap.size + 1) X w' ∧ w'.heap.size = X.heap.size)) := fun X hX => HN.out X _ hX
      have HN2 : Hid (∀ X, RdC X (w.heap.size + 1) (numC (pairsK 1 k l4).2).2 → Calls Tryz.prog 46 #[.pointer (some ⟨w.heap.size + 1, 0, none⟩)] X fun e w' => ∃ v, e = .returned v ∧ (v = .int .i64 (numC (numC (pairsK 1 k l4).2).2).1 ∧ RdC w' (w.heap.size + 1) (numC (numC (pairsK 1 k l4).2).2).2 ∧ Kept (fun k => k = w.heap.size + 1) X w' ∧ w'.heap.size = X.heap.size)) := fun X hX => HN.out X _ hX
      generalize pairsK 1 k l4 = G at *
      obtain ⟨g1, g2⟩ := G
      simp only at hG0
      generalize numC g2 = m1 at *
      obtain ⟨m1, t1⟩ := m1
      generalize numC t1 = m2 at *
      obtain ⟨m2, t2⟩ := m2
      obtain ⟨xa, xc, rfl⟩ := (RowK.own encM_len PI0.out.vals : MlR wr vx g1).shape
      have PD : Hid (PsI w wr.drew w.heap.size g2 na nb fc (.slice xa g1.length xc) (.slice none 0 0) g1 []) := PI0.out.drew
      clear PI0
      go_upto_region 5 with fail
      refine region_lastF (S := fun V => V.cell? ⟨w.heap.size + 2, 3, none⟩ = some (.slice xa g1.length xc)) (by kernel_rfl) (by kernel_rfl) (by kernel_rfl) (by kernel_rfl) ?_
      simp only [List.pop_toArray, List.dropLast_cons_cons, List.dropLast_singleton, List.size_toArray, List.length_cons, List.length_nil, Nat.reduceAdd]
      refine takeH (i := 0) (v := .pointer (some ⟨w.heap.size + 2, 3, none⟩)) (d := 15) rfl rfl (by kernel_rfl) (by kernel_rfl) (by kernel_rfl) (fun _ _ _ h => h) (by rfl) (fun V hV => by have v1 := hV; go_simp) PD.out.box.all5.2.2.2.1 ?_
      simp only [Act.put, List.setIfInBounds_toArray, List.set_cons_zero, List.set_cons_succ]
      refine takeH (i := 1) (v := .slice xa g1.length xc) (d := 16) rfl rfl (by kernel_rfl) (by kernel_rfl) (by kernel_rfl) (fun _ _ _ h => h) (by rfl) (fun V hV => by have v1 := hV; go_simp) PD.out.box.all5.2.2.2.1 ?_
      simp only [Act.put, List.setIfInBounds_toArray, List.set_cons_zero, List.set_cons_succ]
      refine oneH (i := 2) rfl (by kernel_rfl) rfl (call_gets (d := 17) (f := 46) (xs := #[.tmp 3]) (ats := #[91]) rfl rfl en (vs := #[.pointer (some ⟨w.heap.size + 1, 0, none⟩)]) (by simp [Act.eval]) (HN1.out wr.drew PD.out.rd) ?_)
      rintro _ wa ⟨rfl, x1, k1, z1⟩
      have PA : Hid (PsI w wa w.heap.size t1 na nb fc (.slice xa g1.length xc) (.slice none 0 0) g1 []) := PD.out.num x1 k1 z1
      clear x1 k1 z1
      refine ⟨PA.out.box.all5.2.2.2.1, ?_⟩
      simp only [Act.put, List.setIfInBounds_toArray, List.set_cons_zero, List.set_cons_succ]
      refine takeH (i := 3) (v := .int .i64 (IntKind.i64.wrap (m1 - 1))) (d := 18) rfl rfl (by kernel_rfl) (by kernel_rfl) (by kernel_rfl) (fun _ _ _ h => h) (by rfl) (fun V hV => by have v1 := hV; go_simp) PA.out.box.all5.2.2.2.1 ?_
      simp only [Act.put, List.setIfInBounds_toArray, List.set_cons_zero, List.set_cons_succ]
      refine oneH (i := 4) rfl (by kernel_rfl) rfl (call_gets (d := 19) (f := 46) (xs := #[.tmp 3]) (ats := #[91]) rfl rfl en (vs := #[.pointer (some ⟨w.heap.size + 1, 0, none⟩)]) (by simp [Act.eval]) (HN2.out wa PA.out.rd) ?_)
      rintro _ wb ⟨rfl, x1, k1, z1⟩
      have PB : Hid (PsI w wb w.heap.size t2 na nb fc (.slice xa g1.length xc) (.slice none 0 0) g1 []) := PA.out.num x1 k1 z1
      clear x1 k1 z1
      refine ⟨PB.out.box.all5.2.2.2.1, ?_⟩
      simp only [Act.put, List.setIfInBounds_toArray, List.set_cons_zero, List.set_cons_succ]
      refine takeH (i := 5) (v := .int .i64 (IntKind.i64.wrap (m2 - 1))) (d := 20) rfl rfl (by kernel_rfl) (by kernel_rfl) (by kernel_rfl) (fun _ _ _ h => h) (by rfl) (fun V hV => by have v1 := hV; go_simp) PB.out.box.all5.2.2.2.1 ?_
      simp only [Act.put, List.setIfInBounds_toArray, List.set_cons_zero, List.set_cons_succ]
      refine takeH (i := 6) (v := .agg #[.int .i64 (IntKind.i64.wrap (m1 - 1)), .int .i64 (IntKind.i64.wrap (m2 - 1))]) (d := 21) rfl rfl (by kernel_rfl) (by kernel_rfl) (by kernel_rfl) (fun _ _ _ h => h) (by rfl) (fun V hV => by have v1 := hV; go_simp) PB.out.box.all5.2.2.2.1 ?_
      simp only [Act.put, List.setIfInBounds_toArray, List.set_cons_zero, List.set_cons_succ]
      have PC : Hid (PsI w (wb.alloc (.cells #[.int .i64 (IntKind.i64.wrap (m1 - 1)), .int .i64 (IntKind.i64.wrap (m2 - 1))] 53)) w.heap.size t2 na nb fc (.slice xa g1.length xc) (.slice none 0 0) g1 []) := PB.out.alloc _
      obtain ⟨g, gc, wd, hrun, hown, hgr⟩ := run_append_newK kV (w := wb.alloc (.cells #[.int .i64 (IntKind.i64.wrap (m1 - 1)), .int .i64 (IntKind.i64.wrap (m2 - 1))] 53)) 25 (w.heap.size + 3) (.slice xa g1.length xc) g1 PC.out.vals wb.heap.size (IntKind.i64.wrap (m1 - 1), IntKind.i64.wrap (m2 - 1)) #[.int .i64 (IntKind.i64.wrap (m1 - 1)), .int .i64 (IntKind.i64.wrap (m2 - 1))] rfl (0, 0) (heap_alloc_new _ _) (by simp only [kV]; omega) (by unfold maxLen; omega) PC.out.size
      obtain ⟨bd, PF0⟩ := PC.out.setV hgr hown
      have PF : Hid (PsI w (wd.setCell ⟨w.heap.size + 2, 3, none⟩ (.slice (some ⟨g, 0, none⟩) (g1.length + 1) gc)) w.heap.size t2 na nb fc (.slice (some ⟨g, 0, none⟩) (g1.length + 1) gc) (.slice none 0 0) (g1 ++ [(IntKind.i64.wrap (m1 - 1), IntKind.i64.wrap (m2 - 1))]) []) := PF0
      have cd := bd.all5.2.2.2.1
      have fd := bd.frozen 3
      clear hgr hown bd PF0
      refine oneH (i := 7) rfl (by kernel_rfl) rfl (op_run (d := 22) (v' := .slice (some ⟨wb.heap.size, 0, none⟩) 1 1) (w' := wb.alloc (.cells #[.int .i64 (IntKind.i64.wrap (m1 - 1)), .int .i64 (IntKind.i64.wrap (m2 - 1))] 53)) rfl (by go_simp) ⟨PC.out.box.all5.2.2.2.1, ?_⟩)
      simp only [Act.put, List.setIfInBounds_toArray, List.set_cons_zero, List.set_cons_succ]
      refine oneH (i := 8) rfl (by kernel_rfl) rfl (call_append (d := 23) (s := .tmp 16) (x := .tmp 22) (t := 25) rfl rfl (v := .slice xa g1.length xc) (v2 := .slice (some ⟨wb.heap.size, 0, none⟩) 1 1) (by simp [Act.eval]) (by simp [Act.eval]) hrun ⟨cd, ?_⟩)
      simp only [Act.put, List.setIfInBounds_toArray, List.set_cons_zero, List.set_cons_succ]
      refine takeH (i := 9) (v := .pointer (some ⟨w.heap.size + 2, 3, none⟩)) (d := 24) rfl rfl (by kernel_rfl) (by kernel_rfl) (by kernel_rfl) (fun _ _ _ h => h) (by rfl) (fun V hV => by have v1 := hV; go_simp) cd ?_
      simp only [Act.put, List.setIfInBounds_toArray, List.set_cons_zero, List.set_cons_succ]
      refine wpAnyH_done (by kernel_rfl) ?_ _
      clear hrun PA PB PC PD HN1 HN2
      show Oper.wp _ _ _ _ _ _
      go_wp2_with fail
      go_roundw
      case rel => exact ⟨k + 1, _, by omega, by go_num, by rw [HS.out]; exact PF.out⟩
      case measure => simp [intOf]; omega
    · have hlt' : ¬ (k : Int) < c1 := by omega
      have e0 : k = c1.toNat := by omega
      have PE0 : Hid (PsI w wr w.heap.size (pairsK 1 c1.toNat l4).2 na nb fc vx (.slice none 0 0) (pairsK 1 c1.toNat l4).1 []) := by rw [← e0]; exact PI0.out
      have C2 : Hid (∀ X, RdC X (w.heap.size + 1) (pairsK 1 c1.toNat l4).2 → Calls Tryz.prog 47 #[.pointer (some ⟨w.heap.size + 1, 0, none⟩)] X fun e w' => e = .returned (.int .i64 (cntC (pairsK 1 c1.toNat l4).2).1) ∧ RdC w' (w.heap.size + 1) (cntC (pairsK 1 c1.toNat l4).2).2 ∧ Kept (fun k => k = w.heap.size + 1) X w' ∧ w'.heap.size = X.heap.size) := fun X hX => cCount_any _ _ X hX
      have LD : (cntC (pairsK 1 c1.toNat l4).2).1.toNat ≤ 1000000 := by
        have h4 := numC_len (pairsK 1 c1.toNat l4).2
        have h5 := pairsK_len 1 l4 c1.toNat
        show (min (numC (pairsK 1 c1.toNat l4).2).1 _).toNat ≤ _
        omega
      clear PI0 e0 hk hlt
      go_upto_region 7 with fail
      clear hlt'
      generalize pairsK 1 c1.toNat l4 = G at *
      obtain ⟨V, l5⟩ := G
      simp only at LD
      generalize cntC l5 = q2 at *
      obtain ⟨c2, l6⟩ := q2
      simp only at LD
      obtain ⟨ua, uc, rfl⟩ := (RowK.own encM_len PE0.out.vals : MlR wr vx V).shape
      go_wp2_with fail
      refine (C2.out _ PE0.out.rd).mono ?_
      rintro e w7 ⟨rfl, x1, k1, z1⟩
      have I7 : Hid (PsI w w7 w.heap.size l6 na nb fc (.slice ua V.length uc) (.slice none 0 0) V []) := PE0.out.num x1 k1 z1
      clear x1 k1 z1 PE0 C2 I5
      go_wp2_with fail
      go_loopw [27] (fun i wr => ∃ (k : Nat) (vx : Value), k ≤ c2.toNat ∧ i = .int .i64 k ∧ PsI w wr w.heap.size (pairsK 0 k l6).2 na nb fc (.slice ua V.length uc) vx V (pairsK 0 k l6).1) (fun i _ => c2.toNat - (intOf i).toNat)
      case atStart => exact ⟨0, _, by omega, rfl, I7.out⟩
      case round =>
        obtain ⟨k, vx, hk, rfl, hi⟩ := hrel
        have PI0 : Hid (PsI w wr w.heap.size (pairsK 0 k l6).2 na nb fc (.slice ua V.length uc) vx V (pairsK 0 k l6).1) := hi
        clear hi
        by_cases hlt : k < c2.toNat
        · have hlt' : (k : Int) < c2 := by omega
          have HS : Hid (pairsK 0 (k + 1) l6 = ((pairsK 0 k l6).1 ++ [((numC (pairsK 0 k l6).2).1, (numC (numC (pairsK 0 k l6).2).2).1)], (numC (numC (pairsK 0 k l6).2).2).2)) := pairsK_zero k l6
          have hG0 : (pairsK 0 k l6).1.length ≤ k ∧ k ≤ (pairsK 0 k l6).1.length := by have := pairsK_count 0 l6 k; omega
          have HN1 : Hid (∀ X, RdC X (w.heap.size + 1) (pairsK 0 k l6).2 → Calls Tryz.prog 46 #[.pointer (some ⟨w.heap.size + 1, 0, none⟩)] X fun e w' => ∃ v, e = .returned v ∧ (v = .int .i64 (numC (pairsK 0 k l6).2).1 ∧ RdC w' (w.heap.size + 1) (numC (pairsK 0 k l6).2).2 ∧ Kept (fun k => k = w.heap.size + 1) X w' ∧ w'.heap.size = X.heap.size)) := fun X hX => HN.out X _ hX
          have HN2 : Hid (∀ X, RdC X (w.heap.size + 1) (numC (pairsK 0 k l6).2).2 → Calls Tryz.prog 46 #[.pointer (some ⟨w.heap.size + 1, 0, none⟩)] X fun e w' => ∃ v, e = .returned v ∧ (v = .int .i64 (numC (numC (pairsK 0 k l6).2).2).1 ∧ RdC w' (w.heap.size + 1) (numC (numC (pairsK 0 k l6).2).2).2 ∧ Kept (fun k => k = w.heap.size + 1) X w' ∧ w'.heap.size = X.heap.size)) := fun X hX => HN.out X _ hX
          generalize pairsK 0 k l6 = G at *
          obtain ⟨g1, g2⟩ := G
          simp only at hG0
          generalize numC g2 = m1 at *
          obtain ⟨m1, t1⟩ := m1
          generalize numC t1 = m2 at *
          obtain ⟨m2, t2⟩ := m2
          obtain ⟨xa, xc, rfl⟩ := (RowK.own encM_len PI0.out.mail : MlR wr vx g1).shape
          have PD : Hid (PsI w wr.drew w.heap.size g2 na nb fc (.slice ua V.length uc) (.slice xa g1.length xc) V g1) := PI0.out.drew
          clear PI0
          go_upto_region 9 with fail
          refine region_lastF (S := fun V => V.cell? ⟨w.heap.size + 2, 4, none⟩ = some (.slice xa g1.length xc)) (by kernel_rfl) (by kernel_rfl) (by kernel_rfl) (by kernel_rfl) ?_
          simp only [List.pop_toArray, List.dropLast_cons_cons, List.dropLast_singleton, List.size_toArray, List.length_cons, List.length_nil, Nat.reduceAdd]
          refine takeH (i := 0) (v := .pointer (some ⟨w.heap.size + 2, 4, none⟩)) (d := 29) rfl rfl (by kernel_rfl) (by kernel_rfl) (by kernel_rfl) (fun _ _ _ h => h) (by rfl) (fun V hV => by have v1 := hV; go_simp) PD.out.box.all5.2.2.2.2 ?_
          simp only [Act.put, List.setIfInBounds_toArray, List.set_cons_zero, List.set_cons_succ]
          refine takeH (i := 1) (v := .slice xa g1.length xc) (d := 30) rfl rfl (by kernel_rfl) (by kernel_rfl) (by kernel_rfl) (fun _ _ _ h => h) (by rfl) (fun V hV => by have v1 := hV; go_simp) PD.out.box.all5.2.2.2.2 ?_
          simp only [Act.put, List.setIfInBounds_toArray, List.set_cons_zero, List.set_cons_succ]
          refine oneH (i := 2) rfl (by kernel_rfl) rfl (call_gets (d := 31) (f := 46) (xs := #[.tmp 3]) (ats := #[91]) rfl rfl en (vs := #[.pointer (some ⟨w.heap.size + 1, 0, none⟩)]) (by simp [Act.eval]) (HN1.out wr.drew PD.out.rd) ?_)
          rintro _ wa ⟨rfl, x1, k1, z1⟩
          have PA : Hid (PsI w wa w.heap.size t1 na nb fc (.slice ua V.length uc) (.slice xa g1.length xc) V g1) := PD.out.num x1 k1 z1
          clear x1 k1 z1
          refine ⟨PA.out.box.all5.2.2.2.2, ?_⟩
          simp only [Act.put, List.setIfInBounds_toArray, List.set_cons_zero, List.set_cons_succ]
          refine oneH (i := 3) rfl (by kernel_rfl) rfl (call_gets (d := 32) (f := 46) (xs := #[.tmp 3]) (ats := #[91]) rfl rfl en (vs := #[.pointer (some ⟨w.heap.size + 1, 0, none⟩)]) (by simp [Act.eval]) (HN2.out wa PA.out.rd) ?_)
          rintro _ wb ⟨rfl, x1, k1, z1⟩
          have PB : Hid (PsI w wb w.heap.size t2 na nb fc (.slice ua V.length uc) (.slice xa g1.length xc) V g1) := PA.out.num x1 k1 z1
          clear x1 k1 z1
          refine ⟨PB.out.box.all5.2.2.2.2, ?_⟩
          simp only [Act.put, List.setIfInBounds_toArray, List.set_cons_zero, List.set_cons_succ]
          refine takeH (i := 4) (v := .agg #[.int .i64 (m1), .int .i64 (m2)]) (d := 33) rfl rfl (by kernel_rfl) (by kernel_rfl) (by kernel_rfl) (fun _ _ _ h => h) (by rfl) (fun V hV => by have v1 := hV; go_simp) PB.out.box.all5.2.2.2.2 ?_
          simp only [Act.put, List.setIfInBounds_toArray, List.set_cons_zero, List.set_cons_succ]
          have PC : Hid (PsI w (wb.alloc (.cells #[.int .i64 (m1), .int .i64 (m2)] 62)) w.heap.size t2 na nb fc (.slice ua V.length uc) (.slice xa g1.length xc) V g1) := PB.out.alloc _
          obtain ⟨g, gc, wd, hrun, hown, hgr⟩ := run_append_newK kM (w := wb.alloc (.cells #[.int .i64 (m1), .int .i64 (m2)] 62)) 26 (w.heap.size + 3) (.slice xa g1.length xc) g1 PC.out.mail wb.heap.size (m1, m2) #[.int .i64 (m1), .int .i64 (m2)] rfl (0, 0) (heap_alloc_new _ _) (by simp only [kM]; omega) (by unfold maxLen; omega) PC.out.size
          obtain ⟨bd, PF0⟩ := PC.out.setM hgr hown
          have PF : Hid (PsI w (wd.setCell ⟨w.heap.size + 2, 4, none⟩ (.slice (some ⟨g, 0, none⟩) (g1.length + 1) gc)) w.heap.size t2 na nb fc (.slice ua V.length uc) (.slice (some ⟨g, 0, none⟩) (g1.length + 1) gc) V (g1 ++ [(m1, m2)])) := PF0
          have cd := bd.all5.2.2.2.2
          have fd := bd.frozen 4
          clear hgr hown bd PF0
          refine oneH (i := 5) rfl (by kernel_rfl) rfl (op_run (d := 34) (v' := .slice (some ⟨wb.heap.size, 0, none⟩) 1 1) (w' := wb.alloc (.cells #[.int .i64 (m1), .int .i64 (m2)] 62)) rfl (by go_simp) ⟨PC.out.box.all5.2.2.2.2, ?_⟩)
          simp only [Act.put, List.setIfInBounds_toArray, List.set_cons_zero, List.set_cons_succ]
          refine oneH (i := 6) rfl (by kernel_rfl) rfl (call_append (d := 35) (s := .tmp 30) (x := .tmp 34) (t := 26) rfl rfl (v := .slice xa g1.length xc) (v2 := .slice (some ⟨wb.heap.size, 0, none⟩) 1 1) (by simp [Act.eval]) (by simp [Act.eval]) hrun ⟨cd, ?_⟩)
          simp only [Act.put, List.setIfInBounds_toArray, List.set_cons_zero, List.set_cons_succ]
          refine takeH (i := 7) (v := .pointer (some ⟨w.heap.size + 2, 4, none⟩)) (d := 36) rfl rfl (by kernel_rfl) (by kernel_rfl) (by kernel_rfl) (fun _ _ _ h => h) (by rfl) (fun V hV => by have v1 := hV; go_simp) cd ?_
          simp only [Act.put, List.setIfInBounds_toArray, List.set_cons_zero, List.set_cons_succ]
          refine wpAnyH_done (by kernel_rfl) ?_ _
          clear hrun PA PB PC PD HN1 HN2
          show Oper.wp _ _ _ _ _ _
          go_wp2_with fail
          go_roundw
          case rel => exact ⟨k + 1, _, by omega, by go_num, by rw [HS.out]; exact PF.out⟩
          case measure => simp [intOf]; omega
        · have hlt' : ¬ (k : Int) < c2 := by omega
          have e0 : k = c2.toNat := by omega
          have PE : Hid (PsI w wr w.heap.size (pairsK 0 c2.toNat l6).2 na nb fc (.slice ua V.length uc) vx V (pairsK 0 c2.toNat l6).1) := by rw [← e0]; exact PI0.out
          clear PI0 e0 hk hlt
          go_upto_region 11 with fail
          clear hlt'
          generalize pairsK 0 c2.toNat l6 = G at *
          obtain ⟨M, l7⟩ := G
          obtain ⟨ya, yc, rfl⟩ := (RowK.own encM_len PE.out.mail : MlR wr vx M).shape
          have RX : Hid (BX 28 (putS wr w.heap.size (.int .i64 na) (.int .i64 nb) (.bool fc) (.slice ua V.length uc) (.slice ya M.length yc)) w.heap.size #[.int .i64 na, .int .i64 nb, .bool fc, .slice ua V.length uc, .slice ya M.length yc]) := PE.out.zero.putS
          have VE : Hid ((putS wr w.heap.size (.int .i64 na) (.int .i64 nb) (.bool fc) (.slice ua V.length uc) (.slice ya M.length yc)).ownsRow w.heap.size 53 2 (.slice ua V.length uc) V.length (V.flatMap encM)) := own_lower (own_off PE.out.vals PE.out.zero (by decide) (kept_putS wr w.heap.size _ _ _ _ _)) (by omega)
          have ME : Hid ((putS wr w.heap.size (.int .i64 na) (.int .i64 nb) (.bool fc) (.slice ua V.length uc) (.slice ya M.length yc)).ownsRow w.heap.size 62 2 (.slice ya M.length yc) M.length (M.flatMap encM)) := own_lower (own_off PE.out.mail PE.out.zero (by decide) (kept_putS wr w.heap.size _ _ _ _ _)) (by omega)
          have BE : Hid (Below w.heap.size w (putS wr w.heap.size (.int .i64 na) (.int .i64 nb) (.bool fc) (.slice ua V.length uc) (.slice ya M.length yc))) := ((((PE.out.low.setCell (by simp) _).setCell (by simp) _).setCell (by simp) _).setCell (by simp) _).setCell (by simp) _
          obtain ⟨d0, d1, d2, d3, d4⟩ := PE.out.box.all5
          obtain ⟨e0, e1, e2, e3, e4⟩ := PE.out.zero.all5
          obtain ⟨f0, f1, f2, f3, f4⟩ := PE.out.zero.all5f
          go_wp2_with fail
          obtain ⟨r0, r1, r2, r3, r4⟩ := RX.out.all5
          unfold putS at r0 r1 r2 r3 r4
          refine bodyPost_ret (v := .agg #[.int .i64 na, .int .i64 nb, .bool fc, .slice ua V.length uc, .slice ya M.length yc]) (by simp [results, Tryz.results24, go_sem, r0, r1, r2, r3, r4]) rfl ?_
          rw [HP.out]
          exact ⟨_, _, rfl, VE.out, ME.out, BE.out⟩
end Go.Proofs.YtkgdenbabafeoaaGreatDoor

namespace Go.Proofs.YtkgdenbabafeoaaGreatDoor
set_option maxRecDepth 100000
open Go.ChangeShapes Go.WideShapes Go.ChangeAt Go.RowKit

theorem unwrap_any (v : Value) (xs : List Int) (w : World) (h : Reads .u8 w v xs) (hx : ∀ x ∈ xs, 0 ≤ x ∧ x ≤ 255) :
    Calls Tryz.prog 23 #[v] w fun e w' =>
      ∃ v', e = .returned (.tuple #[v', .int .i64 (unwrapF xs).2.1, .int .i64 (unwrapF xs).2.2]) ∧ w'.ownsRow w.heap.size 5 1 v' (unwrapF xs).1.length ((unwrapF xs).1.map (Value.int .u8)) ∧ Below w.heap.size w w' := by
  have HR : Hid (Reads .u8 w v xs) := h
  have HX : Hid (∀ x ∈ xs, 0 ≤ x ∧ x ≤ 255) := hx
  clear h hx
  generalize hu : unwrapF xs = q at *
  have HU : Hid (unwrapF xs = q) := hu
  clear hu
  obtain ⟨q1, q2, q3⟩ := q
  go_enter Tryz.func23, Tryz.ntmps23
  go_wp2_with fail
  refine (newTable_any _).mono ?_
  rintro e w1 ⟨rfl, hT, hbel, _⟩
  have HT : Hid (Tab w1 w.heap.size) := hT
  have hs := hbel.size
  clear hT
  go_wp2_with fail
  refine (unwrap_tab _ _ xs _ HT.out (HR.out.below hbel (Nat.le_refl _)) HX.out).mono ?_
  rintro e w2 ⟨v2, rfl, hown2, hbel2⟩
  rw [HU.out] at hown2 ⊢
  have O2 : Hid (w2.ownsRow w.heap.size 5 1 v2 q1.length (q1.map (Value.int .u8))) := own_lower hown2 hs
  have B2 : Hid (Below w.heap.size w w2) := hbel.trans (hbel2.mono hs)
  clear hown2 hbel2 hbel
  go_wp2
  go_ret3
  exact ⟨v2, rfl, O2.out, B2.out⟩
end Go.Proofs.YtkgdenbabafeoaaGreatDoor

namespace Go.Proofs.YtkgdenbabafeoaaGreatDoor
set_option maxRecDepth 100000
open Go.ChangeShapes Go.WideShapes Go.ChangeAt Go.RowKit

theorem unwrap_len (xs : List Int) : (unwrapF xs).1.length ≤ 20000 := by
  unfold unwrapF
  split
  · simp
  · split
    · simp
    · split
      · simp
      · split
        · simp only [List.length_take]; omega
        · simp
theorem wrap_i64B (x : Int) : i64B (IntKind.i64.wrap x) := by rw [IntKind.wrap_i64]; unfold i64B; omega
theorem pairsK_mlB (d : Int) (l : List Int) : ∀ k, ∀ x ∈ (pairsK d k l).1, mlB x
  | 0, x, hx => by cases hx
  | k + 1, x, hx => by
    rcases List.mem_append.1 hx with h | h
    · exact pairsK_mlB d l k x h
    · rw [List.mem_singleton.1 h]; exact ⟨wrap_i64B _, wrap_i64B _⟩
theorem parse_mlB (l : List Int) : ∀ x ∈ (parseC l).mail, mlB x := pairsK_mlB 0 _ _
/-- Something saved that is answered, and an error. -/
def SvdP (w : World) (r : SvS × Int) (e : Ending) (w' : World) : Prop :=
  ∃ v1 v2, e = .returned (.tuple #[.agg #[.int .i64 r.1.step, .int .i64 r.1.phase, .bool r.1.fresh, v1, v2], .int .i64 r.2]) ∧ w'.ownsRow w.heap.size 53 2 v1 r.1.vals.length (r.1.vals.flatMap encM) ∧ w'.ownsRow w.heap.size 62 2 v2 r.1.mail.length (r.1.mail.flatMap encM) ∧ Below w.heap.size w w'
theorem SvdP.no {w w' : World} {f : Int} (hb : Below w.heap.size w w') : SvdP w (sv0, f) (.returned (.tuple #[.agg #[.int .i64 0, .int .i64 0, .bool false, .slice none 0 0, .slice none 0 0], .int .i64 f])) w' :=
  ⟨_, _, rfl, World.ownsRow_nil _ _ _ _, World.ownsRow_nil _ _ _ _, hb⟩
theorem below_putS {B : Nat} {w0 w : World} {q : Nat} (h : Below B w0 w) (hq : B ≤ q) (a b c d e : Value) : Below B w0 (putS w q a b c d e) := ((((h.setCell (p := ⟨q, 0, none⟩) hq a).setCell (p := ⟨q, 1, none⟩) hq b).setCell (p := ⟨q, 2, none⟩) hq c).setCell (p := ⟨q, 3, none⟩) hq d).setCell (p := ⟨q, 4, none⟩) hq e

set_option maxHeartbeats 4000000 in
set_option maxRecDepth 100000 in
theorem ckDecode_any (v : Value) (b : List Int) (w : World) (hr : Reads .u8 w v b) (hx : ∀ x ∈ b, 0 ≤ x ∧ x ≤ 255) :
    Calls Tryz.prog 9 #[v] w (SvdP w (decS b)) := by
  have HR : Hid (Reads .u8 w v b) := hr
  have HX : Hid (∀ x ∈ b, 0 ≤ x ∧ x ≤ 255) := hx
  obtain ⟨va, vc, rfl⟩ : ∃ a c, v = .slice a b.length c := by obtain ⟨a, c, e, _⟩ := hr; exact ⟨a, c, e⟩
  obtain ⟨W0, hW0⟩ : ∃ W0, W0 = w.alloc (.cells #[.int .i64 0, .int .i64 0, .bool false, .slice none 0 0, .slice none 0 0] 28) := ⟨_, rfl⟩
  have Q0 : BX 28 W0 w.heap.size #[.int .i64 0, .int .i64 0, .bool false, .slice none 0 0, .slice none 0 0] := by rw [hW0]; exact BX.new _ _ _
  have s1 : w.heap.size + 1 ≤ W0.heap.size := by rw [hW0]; simp
  have B0 : Hid (Below w.heap.size w W0) := by show Below _ _ _; rw [hW0]; exact below_alloc _ _
  have ZX : Hid (∀ X, Below W0.heap.size W0 X → BX 28 X w.heap.size #[.int .i64 0, .int .i64 0, .bool false, .slice none 0 0, .slice none 0 0] ∧ Below w.heap.size w X) := fun X hX => ⟨Q0.below hX (by omega), B0.out.trans (hX.mono (by omega))⟩
  have DE : Hid (¬ (unwrapF b).2.2 = 0 → decS b = (sv0, (unwrapF b).2.2)) := decS_err
  have DI : Hid ((unwrapF b).2.2 = 0 → decS b = if encS (parseC (unwrapF b).1) = (b, 0) then (parseC (unwrapF b).1, 0) else (sv0, 3)) := fun h => by unfold decS; rw [if_pos h]
  have UL := unwrap_len b
  have UB : Hid (∀ x ∈ (unwrapF b).1, 0 ≤ x ∧ x ≤ 255) := unwrapF_bytes hx
  have CU : Hid (∀ X, Reads .u8 X (.slice va b.length vc) b → Calls Tryz.prog 23 #[.slice va b.length vc] X fun e w' => ∃ v', e = .returned (.tuple #[v', .int .i64 (unwrapF b).2.1, .int .i64 (unwrapF b).2.2]) ∧ w'.ownsRow X.heap.size 5 1 v' (unwrapF b).1.length ((unwrapF b).1.map (Value.int .u8)) ∧ Below X.heap.size X w') := fun X hX => unwrap_any _ b X hX HX.out
  have R0 : Hid (Reads .u8 W0 (.slice va b.length vc) b) := HR.out.below B0.out (Nat.le_refl _)
  clear Q0 hr hx HR
  generalize unwrapF b = U at *
  obtain ⟨pl, us, ue⟩ := U
  simp only at UL
  have PM : Hid (∀ x ∈ (parseC pl).mail, mlB x) := parse_mlB pl
  have CP : Hid (∀ X u, Reads .u8 X u pl → (∀ a n c, u = .slice (some a) n c → a.block < X.heap.size) → Calls Tryz.prog 24 #[u] X _) := fun X u h1 h2 => parse_any u pl X h1 h2 UB.out (by omega)
  have EB : Hid (∀ x ∈ (encS (parseC pl)).1, 0 ≤ x ∧ x ≤ 255) := encS_bd _
  generalize parseC pl = p at *
  generalize decS b = D at *
  have CE : Hid (∀ X v1 v2, MlR X v1 p.vals → MlR X v2 p.mail → Calls Tryz.prog 8 #[.agg #[.int .i64 p.step, .int .i64 p.phase, .bool p.fresh, v1, v2]] X (BytP2 X (encS p))) := fun X v1 v2 h1 h2 => sEnc_any p v1 v2 X h1 h2 PM.out
  generalize encS p = E at *
  obtain ⟨eb, ee⟩ := E
  go_enter Tryz.func9, Tryz.ntmps9
  go_upto_region 1 with fail
  rw [← hW0]
  clear hW0
  go_wp2_with fail
  refine (CU.out _ R0.out).mono ?_
  rintro e w1 ⟨v1, rfl, ho1, hb1⟩
  have A1 : Hid (Below W0.heap.size W0 w1) := hb1
  have hs1 := hb1.size
  obtain ⟨pa, pc, rfl⟩ := own_slice ho1
  have R1 : Hid (Reads .u8 w1 (.slice pa pl.length pc) pl) := reads_own ho1
  have LT1 : Hid (∀ a n c, (.slice pa pl.length pc : Value) = .slice (some a) n c → a.block < w1.heap.size) := fun a n c e => by
    injection e with e
    subst e
    rcases own_shapeK ho1 with ⟨e, _⟩ | ⟨g', c', e, _, h2, _⟩
    · injection e with e; cases e
    · injection e with e; injection e with e; subst e; exact h2
  clear ho1 hb1
  by_cases hu : ue = 0
  case neg =>
    have hd := DE.out hu
    have tz : (ue != 0) = true := by simp [hu]
    obtain ⟨zz, zb⟩ := ZX.out _ A1.out
    have ZR : Hid (BX 28 (putS w1 w.heap.size (.int .i64 0) (.int .i64 0) (.bool false) (.slice none 0 0) (.slice none 0 0)) w.heap.size #[.int .i64 0, .int .i64 0, .bool false, .slice none 0 0, .slice none 0 0] ∧ Below w.heap.size w (putS w1 w.heap.size (.int .i64 0) (.int .i64 0) (.bool false) (.slice none 0 0) (.slice none 0 0))) := ⟨zz.putS, below_putS zb (Nat.le_refl _) _ _ _ _ _⟩
    obtain ⟨e0, e1, e2, e3, e4⟩ := zz.all5
    obtain ⟨f0, f1, f2, f3, f4⟩ := zz.all5f
    have HDD : Hid (D = (sv0, ue)) := hd
    clear hd zz zb
    go_wp2_with fail
    obtain ⟨r0, r1, r2, r3, r4⟩ := ZR.out.1.all5
    unfold putS at r0 r1 r2 r3 r4
    refine bodyPost_ret (v := .tuple #[.agg #[.int .i64 0, .int .i64 0, .bool false, .slice none 0 0, .slice none 0 0], .int .i64 ue]) (by simp [results, Tryz.results9, go_sem, r0, r1, r2, r3, r4]) rfl ?_
    rw [HDD.out]
    exact SvdP.no ZR.out.2
  case pos =>
    subst hu
    have HDI : Hid (D = if (eb, ee) = (b, 0) then (p, 0) else (sv0, 3)) := DI.out rfl
    clear DE DI
    go_upto_region 4 with fail
    go_wp2_with fail
    refine (CP.out _ _ R1.out LT1.out).mono ?_
    rintro e w2 ⟨u1, u2, rfl, hu1, hu2, hb2⟩
    have V2 : MlR w2 u1 p.vals := RowK.own encM_len hu1
    have M2 : MlR w2 u2 p.mail := RowK.own encM_len hu2
    obtain ⟨vb, vd, rfl⟩ := V2.shape
    obtain ⟨mb, md, rfl⟩ := M2.shape
    have A2 : Below W0.heap.size W0 w2 := A1.out.trans (hb2.mono hs1)
    have N3 : Hid (Below W0.heap.size W0 (w2.alloc (.cells #[.int .i64 p.step, .int .i64 p.phase, .bool p.fresh, .slice vb p.vals.length vd, .slice mb p.mail.length md] 28)) ∧ BX 28 (w2.alloc (.cells #[.int .i64 p.step, .int .i64 p.phase, .bool p.fresh, .slice vb p.vals.length vd, .slice mb p.mail.length md] 28)) w2.heap.size #[.int .i64 p.step, .int .i64 p.phase, .bool p.fresh, .slice vb p.vals.length vd, .slice mb p.mail.length md] ∧ (w2.alloc (.cells #[.int .i64 p.step, .int .i64 p.phase, .bool p.fresh, .slice vb p.vals.length vd, .slice mb p.mail.length md] 28)).ownsRow W0.heap.size 53 2 (.slice vb p.vals.length vd) p.vals.length (p.vals.flatMap encM) ∧ (w2.alloc (.cells #[.int .i64 p.step, .int .i64 p.phase, .bool p.fresh, .slice vb p.vals.length vd, .slice mb p.mail.length md] 28)).ownsRow W0.heap.size 62 2 (.slice mb p.mail.length md) p.mail.length (p.mail.flatMap encM)) := ⟨A2.alloc A2.size _, BX.new _ _ _, own_lower (hu1.alloc _) hs1, own_lower (hu2.alloc _) hs1⟩
    clear hu1 hu2 hb2 V2 M2 A2 CP
    go_upto_region 5 with fail
    generalize (w2.alloc (.cells #[.int .i64 p.step, .int .i64 p.phase, .bool p.fresh, .slice vb p.vals.length vd, .slice mb p.mail.length md] 28)) = w3 at *
    generalize w2.heap.size = b3 at *
    obtain ⟨A3', X3', V3', M3'⟩ := N3.out
    have A3 : Hid (Below W0.heap.size W0 w3) := A3'
    have X3 : Hid (BX 28 w3 b3 #[.int .i64 p.step, .int .i64 p.phase, .bool p.fresh, .slice vb p.vals.length vd, .slice mb p.mail.length md]) := X3'
    have V3 : Hid (w3.ownsRow W0.heap.size 53 2 (.slice vb p.vals.length vd) p.vals.length (p.vals.flatMap encM)) := V3'
    have M3 : Hid (w3.ownsRow W0.heap.size 62 2 (.slice mb p.mail.length md) p.mail.length (p.mail.flatMap encM)) := M3'
    have hs3 := A3'.size
    obtain ⟨c0, c1, c2, c3, c4⟩ := X3'.all5
    clear A3' X3' V3' M3' N3
    go_wp2_with fail
    refine (CE.out _ _ _ (RowK.own encM_len V3.out) (RowK.own encM_len M3.out)).mono ?_
    rintro e w4 ⟨ve, rfl, ho4, hb4⟩
    obtain ⟨ea, ec, rfl⟩ := own_slice ho4
    have R4 : Hid (Reads .u8 w4 (.slice ea eb.length ec) eb) := reads_own ho4
    have A4 : Hid (Below W0.heap.size W0 w4) := A3.out.trans (hb4.mono hs3)
    have X4 : Hid (BX 28 w4 b3 #[.int .i64 p.step, .int .i64 p.phase, .bool p.fresh, .slice vb p.vals.length vd, .slice mb p.mail.length md]) := X3.out.below hb4 X3.out.lt
    have V4 : Hid (w4.ownsRow W0.heap.size 53 2 (.slice vb p.vals.length vd) p.vals.length (p.vals.flatMap encM)) := own_below V3.out hb4 (Nat.le_refl _)
    have M4 : Hid (w4.ownsRow W0.heap.size 62 2 (.slice mb p.mail.length md) p.mail.length (p.mail.flatMap encM)) := own_below M3.out hb4 (Nat.le_refl _)
    have RB : Hid (Reads .u8 w4 (.slice va b.length vc) b) := R0.out.below A4.out (Nat.le_refl _)
    obtain ⟨zz, zb⟩ := ZX.out _ A4.out
    have ZR : Hid (BX 28 (putS w4 w.heap.size (.int .i64 0) (.int .i64 0) (.bool false) (.slice none 0 0) (.slice none 0 0)) w.heap.size #[.int .i64 0, .int .i64 0, .bool false, .slice none 0 0, .slice none 0 0] ∧ Below w.heap.size w (putS w4 w.heap.size (.int .i64 0) (.int .i64 0) (.bool false) (.slice none 0 0) (.slice none 0 0))) := ⟨zz.putS, below_putS zb (Nat.le_refl _) _ _ _ _ _⟩
    have ZY : Hid (BX 28 (putS w4 w.heap.size (.int .i64 p.step) (.int .i64 p.phase) (.bool p.fresh) (.slice vb p.vals.length vd) (.slice mb p.mail.length md)) w.heap.size #[.int .i64 p.step, .int .i64 p.phase, .bool p.fresh, .slice vb p.vals.length vd, .slice mb p.mail.length md] ∧ (putS w4 w.heap.size (.int .i64 p.step) (.int .i64 p.phase) (.bool p.fresh) (.slice vb p.vals.length vd) (.slice mb p.mail.length md)).ownsRow w.heap.size 53 2 (.slice vb p.vals.length vd) p.vals.length (p.vals.flatMap encM) ∧ (putS w4 w.heap.size (.int .i64 p.step) (.int .i64 p.phase) (.bool p.fresh) (.slice vb p.vals.length vd) (.slice mb p.mail.length md)).ownsRow w.heap.size 62 2 (.slice mb p.mail.length md) p.mail.length (p.mail.flatMap encM) ∧ Below w.heap.size w (putS w4 w.heap.size (.int .i64 p.step) (.int .i64 p.phase) (.bool p.fresh) (.slice vb p.vals.length vd) (.slice mb p.mail.length md))) := ⟨zz.putS, own_lower (own_off V4.out zz (by decide) (kept_putS w4 w.heap.size _ _ _ _ _)) (by omega), own_lower (own_off M4.out zz (by decide) (kept_putS w4 w.heap.size _ _ _ _ _)) (by omega), below_putS zb (Nat.le_refl _) _ _ _ _ _⟩
    have ZZ : Hid (BX 28 w4 w.heap.size #[.int .i64 0, .int .i64 0, .bool false, .slice none 0 0, .slice none 0 0]) := zz
    clear c0 c1 c2 c3 c4 zz zb ho4 hb4 CE
    by_cases he : ee = 0
    case neg =>
      have HDD : Hid (D = (sv0, 3)) := by show _ = _; rw [HDI.out, if_neg (fun h => he (Prod.mk.inj h).2)]
      have tz : (ee != 0) = true := by simp [he]
      obtain ⟨e0, e1, e2, e3, e4⟩ := ZZ.out.all5
      obtain ⟨f0, f1, f2, f3, f4⟩ := ZZ.out.all5f
      go_wp2_with fail
      obtain ⟨r0, r1, r2, r3, r4⟩ := ZR.out.1.all5
      unfold putS at r0 r1 r2 r3 r4
      refine bodyPost_ret (v := .tuple #[.agg #[.int .i64 0, .int .i64 0, .bool false, .slice none 0 0, .slice none 0 0], .int .i64 3]) (by simp [results, Tryz.results9, go_sem, r0, r1, r2, r3, r4]) rfl ?_
      rw [HDD.out]
      exact SvdP.no ZR.out.2
    case pos =>
      subst he
      go_upto_region 6 with fail
      go_wp2_with fail
      refine (bytesEqual_any _ _ eb b _ R4.out RB.out EB.out HX.out).mono ?_
      rintro e w5 ⟨rfl, e5⟩
      have e5' : w4 = w5 := e5.symm
      subst e5'
      clear e5
      obtain ⟨e0, e1, e2, e3, e4⟩ := ZZ.out.all5
      obtain ⟨f0, f1, f2, f3, f4⟩ := ZZ.out.all5f
      by_cases hq : eb = b
      case neg =>
        have HDD : Hid (D = (sv0, 3)) := by show _ = _; rw [HDI.out, if_neg (fun h => hq (Prod.mk.inj h).1)]
        have tq : decide (eb = b) = false := by simp [hq]
        rw [tq]
        clear hq
        go_wp2_with fail
        obtain ⟨r0, r1, r2, r3, r4⟩ := ZR.out.1.all5
        unfold putS at r0 r1 r2 r3 r4
        refine bodyPost_ret (v := .tuple #[.agg #[.int .i64 0, .int .i64 0, .bool false, .slice none 0 0, .slice none 0 0], .int .i64 3]) (by simp [results, Tryz.results9, go_sem, r0, r1, r2, r3, r4]) rfl ?_
        rw [HDD.out]
        exact SvdP.no ZR.out.2
      case pos =>
        have HDD : Hid (D = (p, 0)) := by show _ = _; rw [HDI.out, if_pos (by rw [hq])]
        have tq : decide (eb = b) = true := by simp [hq]
        rw [tq]
        clear hq
        obtain ⟨c0, c1, c2, c3, c4⟩ := X4.out.all5
        go_wp2_with fail
        obtain ⟨r0, r1, r2, r3, r4⟩ := ZY.out.1.all5
        unfold putS at r0 r1 r2 r3 r4
        refine bodyPost_ret (v := .tuple #[.agg #[.int .i64 p.step, .int .i64 p.phase, .bool p.fresh, .slice vb p.vals.length vd, .slice mb p.mail.length md], .int .i64 0]) (by simp [results, Tryz.results9, go_sem, r0, r1, r2, r3, r4]) rfl ?_
        rw [HDD.out]
        exact ⟨_, _, rfl, ZY.out.2.1, ZY.out.2.2.1, ZY.out.2.2.2⟩
end Go.Proofs.YtkgdenbabafeoaaGreatDoor

namespace Go.Proofs.YtkgdenbabafeoaaGreatDoor
set_option maxRecDepth 100000
open Go.ChangeShapes Go.WideShapes Go.ChangeAt Go.RowKit

def loadE (fs : List FileL) (n : Int) : SvS × Int :=
  if 0 ≤ n ∧ n ≤ 1 then (if (readF fs (slotB n)).2 = 0 then decS (readF fs (slotB n)).1 else (sv0, (readF fs (slotB n)).2)) else (sv0, 2)
theorem loadE_no {fs : List FileL} {n : Int} (h : ¬ (0 ≤ n ∧ n ≤ 1)) : loadE fs n = (sv0, 2) := by rw [loadE, if_neg h]
theorem loadE_err {fs : List FileL} {n : Int} (h : 0 ≤ n ∧ n ≤ 1) (h2 : ¬ (readF fs (slotB n)).2 = 0) : loadE fs n = (sv0, (readF fs (slotB n)).2) := by rw [loadE, if_pos h, if_neg h2]
theorem loadE_yes {fs : List FileL} {n : Int} (h : 0 ≤ n ∧ n ≤ 1) (h2 : (readF fs (slotB n)).2 = 0) : loadE fs n = decS (readF fs (slotB n)).1 := by rw [loadE, if_pos h, if_pos h2]
theorem SvdP.at {w w' : World} {s : SvS} {f : Int} {v1 v2 : Value} (h1 : w'.ownsRow w.heap.size 53 2 v1 s.vals.length (s.vals.flatMap encM)) (h2 : w'.ownsRow w.heap.size 62 2 v2 s.mail.length (s.mail.flatMap encM)) (hb : Below w.heap.size w w') :
    SvdP w (s, f) (.returned (.tuple #[.agg #[.int .i64 s.step, .int .i64 s.phase, .bool s.fresh, v1, v2], .int .i64 f])) w' := ⟨_, _, rfl, h1, h2, hb⟩
end Go.Proofs.YtkgdenbabafeoaaGreatDoor

namespace Go.Proofs.YtkgdenbabafeoaaGreatDoor
set_option maxRecDepth 100000
open Go.ChangeShapes Go.WideShapes Go.ChangeAt Go.RowKit

/-- One slot more is looked at. -/
def stepN (m : Int) (c r : SvS × Int) : SvS × Int := if r.2 = 0 ∧ r.1.step ≤ m then (if c.2 ≠ 0 ∨ c.1.step < r.1.step then (r.1, 0) else c) else c
def curN (fs : List FileL) (m : Int) : Nat → SvS × Int
  | 0 => (sv0, 7)
  | k + 1 => stepN m (curN fs m k) (loadE fs k)
def newE (fs : List FileL) (m : Int) : SvS × Int := if mayB fs = true then curN fs m 2 else (sv0, 9)
theorem newE_no {fs : List FileL} {m : Int} (h : mayB fs = false) : newE fs m = (sv0, 9) := by rw [newE, if_neg (by rw [h]; decide)]
theorem newE_yes {fs : List FileL} {m : Int} (h : mayB fs = true) : newE fs m = curN fs m 2 := by rw [newE, if_pos h]
theorem curN_skip {fs : List FileL} {m : Int} {k : Nat} (h : ¬ ((loadE fs k).2 = 0 ∧ (loadE fs k).1.step ≤ m)) : curN fs m (k + 1) = curN fs m k := by
  show stepN _ _ _ = _
  rw [stepN, if_neg h]
theorem curN_take {fs : List FileL} {m : Int} {k : Nat} (h : (loadE fs k).2 = 0 ∧ (loadE fs k).1.step ≤ m) (h2 : (curN fs m k).2 ≠ 0 ∨ (curN fs m k).1.step < (loadE fs k).1.step) : curN fs m (k + 1) = ((loadE fs k).1, 0) := by
  show stepN _ _ _ = _
  rw [stepN, if_pos h, if_pos h2]
theorem curN_keep {fs : List FileL} {m : Int} {k : Nat} (h2 : ¬ ((curN fs m k).2 ≠ 0 ∨ (curN fs m k).1.step < (loadE fs k).1.step)) : curN fs m (k + 1) = curN fs m k := by
  show stepN _ _ _ = _
  rw [stepN, if_neg h2]
  split <;> rfl
theorem getR_nine : ∀ (xs : List Int) (i : Nat) (n : Int), (getR i n xs).2.2 ≠ 9
  | [], _, _ => by simp [getR]
  | x :: r, i, n => by
    rw [getR]
    split
    · simp
    · split
      · exact getR_nine r _ _
      · split <;> simp
theorem get_nine (xs : List Int) : (get xs).2.2 ≠ 9 := getR_nine xs 0 0
theorem unwrap_nine (b : List Int) : (unwrapF b).2.2 ≠ 9 := by
  unfold unwrapF
  split
  · exact get_nine b
  · split
    · simp
    · split
      · simp
      · split <;> simp
theorem decS_nine (b : List Int) : (decS b).2 ≠ 9 := by
  unfold decS
  split
  · split <;> simp
  · exact unwrap_nine b
theorem loadE_state {fs : List FileL} (h : mayB fs = false) (k : Nat) (hk : k < 2) : loadE fs k = (sv0, 9) := by
  have h1 := readF_may (n := slotB k) h
  rw [loadE_err ⟨by omega, by omega⟩ (by rw [h1]; decide), h1]
theorem loadE_nine {fs : List FileL} (h : mayB fs = true) (k : Nat) (hk : k < 2) : (loadE fs k).2 ≠ 9 := by
  have hn : (0 : Int) ≤ (k : Int) ∧ (k : Int) ≤ 1 := ⟨by omega, by omega⟩
  by_cases h2 : (readF fs (slotB k)).2 = 0
  · rw [loadE_yes hn h2]
    exact decS_nine _
  · rw [loadE_err hn h2]
    unfold readF
    rw [if_pos h]
    split <;> simp
end Go.Proofs.YtkgdenbabafeoaaGreatDoor

namespace Go.Proofs.YtkgdenbabafeoaaGreatDoor
set_option maxRecDepth 100000
open Go.ChangeShapes Go.WideShapes Go.ChangeAt Go.RowKit

/-- P3.4, of a disk that may be. -/
def syncF (fs : List FileL) (n : ByteArray) : List FileL × Int :=
  if atF fs n < 0 then ([], 7) else (fs.set (atF fs n).toNat { fs.getD (atF fs n).toNat noF with synced := ((fs.getD (atF fs n).toNat noF).data.length : Int) }, 0)
theorem syncF_none {fs : List FileL} {n : ByteArray} (h : atF fs n = -1) : syncF fs n = ([], 7) := by simp [syncF, h]
theorem syncF_some {fs : List FileL} {n : ByteArray} {k : Nat} (h : atF fs n = k) : syncF fs n = (fs.set k { fs.getD k noF with synced := ((fs.getD k noF).data.length : Int) }, 0) := by
  simp only [syncF, h]
  rw [if_neg (by omega)]; simp
theorem syncF_err {fs : List FileL} {n : ByteArray} : (syncF fs n).2 ≠ 0 → (syncF fs n).1 = [] := by
  rcases atF_cases fs n with ⟨k, hk, e, _, _⟩ | ⟨e, _⟩
  · rw [syncF_some e]; simp
  · rw [syncF_none e]; simp

theorem good_sync {fs : List FileL} {n : ByteArray} (hg : Good fs) : Good (syncF fs n).1 := by
  rcases atF_cases fs n with ⟨k, hk, e, _, _⟩ | ⟨e, _⟩
  · rw [syncF_some e]
    exact good_set hg (fun hk => by
      obtain ⟨h1, h2, h3, h4, h5⟩ := hg k hk
      exact ⟨h1, (show (-9223372036854775808 : Int) ≤ ((fs.getD k noF).data.length : Int) by omega), (show ((fs.getD k noF).data.length : Int) ≤ 9223372036854775807 by omega), h4, h5⟩)
  · rw [syncF_none e]; exact good_nil

set_option maxHeartbeats 1000000 in
set_option maxRecDepth 100000 in
theorem sync_any (p B : Nat) (v3 : Value) (fs : List FileL) (vs : List Value) (n : ByteArray) (w : World) (hpB : p < B) (hc : w.cell? ⟨p, 0, none⟩ = some v3) (ho : OwnD w B v3 fs vs) :
    Calls Tryz.prog 54 #[.pointer (some ⟨p, 0, none⟩), .string n] w fun e w4 => ∃ v4, e = .returned (.int .i64 (syncF fs n).2) ∧ w4.cell? ⟨p, 0, none⟩ = some v4 ∧ ((syncF fs n).2 = 0 → DiskR w4 v4 (syncF fs n).1) ∧ Below p w w4 := by
  have lp : p < w.heap.size := World.block_lt_of_cell? w _ hc
  have HO : Hid (OwnD w B v3 fs vs) := ho
  clear ho
  go_enter Tryz.func54, Tryz.ntmps54
  go_wp2_with fail
  refine (find_any p v3 fs n _ hc HO.out.reads).mono ?_
  rintro e w1 ⟨rfl, hb1⟩
  have O1 : Hid (OwnD w1 B v3 fs vs) := HO.out.below hb1 (Nat.le_refl _)
  have c1 : w1.cell? ⟨p, 0, none⟩ = some v3 := (hb1.cell (p := ⟨p, 0, none⟩) lp).trans hc
  have B1 : Hid (Below w.heap.size w w1) := hb1
  clear hb1
  rcases atF_cases fs n with ⟨k, hk, e, _, _⟩ | ⟨e, _⟩
  · have HF : Hid (syncF fs n = (fs.set k { fs.getD k noF with synced := ((fs.getD k noF).data.length : Int) }, 0)) := syncF_some e
    rw [e]
    rcases O1.out.row_or with ⟨_, rfl⟩ | ⟨g, cap, rfl, hg, hrow⟩
    · simp at hk
    have hf := hrow.file k hk
    obtain ⟨f1, f2, f3, da, dc, hdv, hd1, hd2, _, _⟩ := hf
    have hfz := hrow.free (k * 3 + 2)
    have hrf := hrow.setSynced hk ((fs.getD k noF).data.length : Int)
    have HRF : Hid (RowF (w1.setCell ⟨g, k * 3 + 2, none⟩ (.int .i64 ((fs.getD k noF).data.length : Int))) g cap (fs.set k { fs.getD k noF with synced := ((fs.getD k noF).data.length : Int) }) (fun i => vs.getD i undef)) := hrf
    have hcl : fs.length ≤ cap := hrow.le
    have hcm := hrow.max
    have hgl := hrow.lt
    have hlen : (fs.set k { fs.getD k noF with synced := ((fs.getD k noF).data.length : Int) }).length = fs.length := List.length_set
    have HLEN : Hid ((fs.set k { fs.getD k noF with synced := ((fs.getD k noF).data.length : Int) }).length = fs.length) := hlen
    have hpg : p ≠ g := by omega
    rw [hdv] at f2
    unfold maxLen at hcm
    clear hrf hrow hdv hlen e
    have q0 : (0 : Int) ≤ (k : Int) := by omega
    have q1 : (k : Int) < (fs.length : Int) := by omega
    generalize hF : fs.getD k noF = f at *
    have HHF : Hid (fs.getD k noF = f) := hF
    clear hF
    go_wp2_with fail
    go_region
    all_goals
      go_wp2_with fail
      go_ret
      refine ⟨_, by rw [HF.out]; rfl, by rw [World.cell?_drew, World.cell?_setCell_other _ _ _ _ (fun e => hpg (congrArg Addr.block e).symm)]; exact c1, fun _ => ?_, ?_⟩
      · rw [HF.out]
        have h9 := HRF.out.reads
        rw [HLEN.out] at h9
        exact h9.drew
      · exact ((B1.out.mono (Nat.le_of_lt lp)).setCell (p := ⟨g, k * 3 + 2, none⟩) (show p ≤ g by omega) _).drew
  · have HF : Hid (syncF fs n = ([], 7)) := syncF_none e
    rw [e]
    clear e
    go_wp2_with fail
    go_ret
    exact ⟨v3, by rw [HF.out]; rfl, c1, fun h => by rw [HF.out] at h; simp at h, B1.out.mono (Nat.le_of_lt lp)⟩

set_option maxHeartbeats 400000 in
theorem sync1_any (p B q : Nat) (v3 : Value) (fs : List FileL) (vs : List Value) (n : ByteArray) (w : World) (hpB : p < B) (hq : w.cell? ⟨q, 0, none⟩ = some (.string n)) (hc : w.cell? ⟨p, 0, none⟩ = some v3) (ho : OwnD w B v3 fs vs) :
    Calls Tryz.prog 53 #[.pointer (some ⟨p, 0, none⟩), .pointer (some ⟨q, 0, none⟩)] w fun e w4 => ∃ v4, e = .returned (.int .i64 (syncF fs n).2) ∧ w4.cell? ⟨p, 0, none⟩ = some v4 ∧ ((syncF fs n).2 = 0 → DiskR w4 v4 (syncF fs n).1) ∧ Below p w w4 := by
  have HO : Hid (OwnD w B v3 fs vs) := ho
  clear ho
  go_enter Tryz.func53, Tryz.ntmps53
  go_wp2_with fail
  refine (sync_any p B v3 fs vs n _ hpB hc HO.out).mono ?_
  rintro e w1 ⟨v4, rfl, h1, h2, h3⟩
  have H2 : Hid ((syncF fs n).2 = 0 → DiskR w1 v4 (syncF fs n).1) := h2
  clear h2
  go_wp2_with fail
  go_ret
  exact ⟨v4, rfl, h1, H2.out, h3⟩

theorem enter_sync (args : Array Value) (w : World) : (callFunc 53 args).run Tryz.prog w = .ok (.enter 53 args) w := by go_simp

set_option maxHeartbeats 400000 in
theorem diskSync_any (v : Value) (fs : List FileL) (n : ByteArray) (w : World) (h : DiskR w v fs) (hg : Good fs) :
    Calls Tryz.prog 29 #[.agg #[v], .string n] w fun e w' => ∃ v', e = .returned (.tuple #[.agg #[v'], .int .i64 (chF fs (syncF fs n)).2]) ∧ DiskR w' v' (chF fs (syncF fs n)).1 ∧ Below w.heap.size w w' := by
  have hmf : ∀ (fn : Fn) (first cap : Array Value) (w : World), (Instr.makeFunc fn first cap).run Tryz.prog w = .ok (.func fn first cap) w := fun _ _ _ _ => rfl
  have HG : Hid (Good fs) := hg
  have HD : Hid (DiskR w v fs) := h
  obtain ⟨a, cap, rfl, _, _, _, _⟩ := h
  clear hg
  go_enter Tryz.func29, Tryz.ntmps29
  go_wp2_with fail
  refine (changed_one _ fs (syncF fs n) 53 (.pointer (some ⟨w.heap.size + 1, 0, none⟩)) _ ?_ HG.out syncF_err enter_sync ?_).mono ?_
  · exact diskR_three HD.out _ _ _
  · intro p B w3 v3 vs h1 h2 h3 h4 h5 h6 h7 _
    refine sync1_any p B (w.heap.size + 1) v3 fs vs n w3 h2 ?_ h4 h6
    exact (h7.cell (p := ⟨w.heap.size + 1, 0, none⟩) (by simp)).trans (cell_mid _ _ _ _ _)
  rintro e w1 ⟨v1, rfl, hd1, hb1⟩
  have hb1' : Below (w.heap.size + 3) (((w.alloc (.cells #[.slice a fs.length cap] 39)).alloc (.cells #[.string n] 9)).alloc (.cells #[.slice none 0 0] 39)) w1 := by simpa using hb1
  have hblk : w1.heap[w.heap.size + 2]? = some (.cells #[.slice none 0 0] 39 (0, 0)) := (hb1'.block _ (Nat.lt_succ_self _)).trans (heap_third _ _ _ _ _)
  have t1 : w1.cell? ⟨w.heap.size + 2, 0, none⟩ = some (.slice none 0 0) := by rw [cell_of_row w1 _ _ _ _ _ hblk]; rfl
  have t2 : w1.frozen? ⟨w.heap.size + 2, 0, none⟩ = false := by simp only [World.frozen?, hblk]; simp
  have B1 : Hid (Below w.heap.size w w1) := below_three hb1'
  have D2 : Hid (∀ y, DiskR (w1.setCell ⟨w.heap.size + 2, 0, none⟩ y) v1 (chF fs (syncF fs n)).1) := fun y => hd1.setBox hblk
  obtain ⟨a1, c1, rfl, _, _, _, _⟩ := hd1
  clear hb1 hb1' hblk
  generalize hq : chF fs (syncF fs n) = q at *
  have HQ : Hid (chF fs (syncF fs n) = q) := hq
  clear hq
  go_wp2_with fail
  exact bodyPost_ret (v := .tuple #[.agg #[.slice a1 q.1.length c1], .int .i64 q.2]) (by simp [results, Tryz.results29, go_sem, t1]) rfl ⟨_, by rw [HQ.out], by rw [HQ.out]; exact D2.out _, B1.out.setCell (show w.heap.size ≤ w.heap.size + 2 by omega) _⟩
end Go.Proofs.YtkgdenbabafeoaaGreatDoor

namespace Go.Proofs.YtkgdenbabafeoaaGreatDoor
set_option maxRecDepth 100000
open Go.ChangeShapes Go.WideShapes Go.ChangeAt Go.RowKit

/-- A file gets another name, at its place; whatever had that name goes. -/
def moved (fs : List FileL) (k : Nat) (tnm : ByteArray) : List FileL :=
  if 0 ≤ atF fs tnm ∧ atF fs tnm ≠ k then (fs.set k { fs.getD k noF with name := tnm }).eraseIdx (atF fs tnm).toNat else fs.set k { fs.getD k noF with name := tnm }
/-- P3.5, of a disk that may be. -/
def renameF (fs : List FileL) (n tnm : ByteArray) : List FileL × Int :=
  if nmB tnm = true then if atF fs n < 0 then ([], 7) else (moved fs (atF fs n).toNat tnm, 0) else ([], 1)
theorem renameF_size {fs : List FileL} {n tnm : ByteArray} (h : nmB tnm = false) : renameF fs n tnm = ([], 1) := by simp [renameF, h]
theorem renameF_none {fs : List FileL} {n tnm : ByteArray} (h0 : nmB tnm = true) (h : atF fs n = -1) : renameF fs n tnm = ([], 7) := by simp [renameF, h0, h]
theorem renameF_some {fs : List FileL} {n tnm : ByteArray} {k : Nat} (h0 : nmB tnm = true) (h : atF fs n = k) : renameF fs n tnm = (moved fs k tnm, 0) := by
  simp only [renameF, h0, h, if_true]
  rw [if_neg (by omega)]; simp
theorem renameF_err {fs : List FileL} {n tnm : ByteArray} : (renameF fs n tnm).2 ≠ 0 → (renameF fs n tnm).1 = [] := by
  cases h0 : nmB tnm with
  | false => rw [renameF_size h0]; simp
  | true =>
    rcases atF_cases fs n with ⟨k, hk, e, _, _⟩ | ⟨e, _⟩
    · rw [renameF_some h0 e]; simp
    · rw [renameF_none h0 e]; simp
theorem good_rename {fs : List FileL} {n tnm : ByteArray} (hg : Good fs) (ht : tnm.size ≤ maxLen) : Good (renameF fs n tnm).1 := by
  cases h0 : nmB tnm with
  | false => rw [renameF_size h0]; exact good_nil
  | true =>
    rcases atF_cases fs n with ⟨k, hk, e, _, _⟩ | ⟨e, _⟩
    · rw [renameF_some h0 e]
      have hs : Good (fs.set k { fs.getD k noF with name := tnm }) := good_set hg (fun hk => by
        obtain ⟨h1, h2, h3, h4, h5⟩ := hg k hk
        exact ⟨h1, h2, h3, ht, h5⟩)
      show Good (moved fs k tnm)
      unfold moved
      split
      · rename_i hh
        rcases atF_cases fs tnm with ⟨j, hj, e2, _, _⟩ | ⟨e2, _⟩
        · exact good_erase hs (by rw [e2, List.length_set]; simpa using hj)
        · omega
      · exact hs
    · rw [renameF_none h0 e]; exact good_nil

set_option maxHeartbeats 1000000 in
set_option maxRecDepth 100000 in
theorem rename_any (p B : Nat) (v3 : Value) (fs : List FileL) (vs : List Value) (n tnm : ByteArray) (w : World) (hpB : p < B) (_hB : B ≤ w.heap.size) (hc : w.cell? ⟨p, 0, none⟩ = some v3) (hf : w.frozen? ⟨p, 0, none⟩ = false) (ho : OwnD w B v3 fs vs) (_hmay : mayB fs = true) (_hn : n.size ≤ maxLen) (ht : tnm.size ≤ maxLen) :
    Calls Tryz.prog 56 #[.pointer (some ⟨p, 0, none⟩), .string n, .string tnm] w fun e w4 => ∃ v4, e = .returned (.int .i64 (renameF fs n tnm).2) ∧ w4.cell? ⟨p, 0, none⟩ = some v4 ∧ ((renameF fs n tnm).2 = 0 → DiskR w4 v4 (renameF fs n tnm).1) ∧ Below p w w4 := by
  have lp : p < w.heap.size := World.block_lt_of_cell? w _ hc
  have HO : Hid (OwnD w B v3 fs vs) := ho
  clear ho
  go_enter Tryz.func56, Tryz.ntmps56
  go_wp2_with fail
  refine (nameMay_any tnm _ ht).mono ?_
  rintro e w0 ⟨rfl, rfl⟩
  cases h0 : nmB tnm with
  | false =>
    have HF : Hid (renameF fs n tnm = ([], 1)) := renameF_size h0
    clear h0
    go_wp2_with fail
    go_ret
    exact ⟨v3, by rw [HF.out]; rfl, hc, fun h => by rw [HF.out] at h; simp at h, Below.refl _ _⟩
  | true =>
    go_wp2_with fail
    refine (find_any p v3 fs n _ hc HO.out.reads).mono ?_
    rintro e w1 ⟨rfl, hb1⟩
    have O1 : Hid (OwnD w1 B v3 fs vs) := HO.out.below hb1 (Nat.le_refl _)
    have c1 : w1.cell? ⟨p, 0, none⟩ = some v3 := (hb1.cell (p := ⟨p, 0, none⟩) lp).trans hc
    have f1 : w1.frozen? ⟨p, 0, none⟩ = false := (hb1.frozen (p := ⟨p, 0, none⟩) lp).trans hf
    have B1 : Hid (Below p w0 w1) := hb1.mono (Nat.le_of_lt lp)
    have hs1 := hb1.size
    clear hb1
    rcases atF_cases fs n with ⟨k, hk, e, _, _⟩ | ⟨e, _⟩
    · have HF : Hid (renameF fs n tnm = (moved fs k tnm, 0)) := renameF_some h0 e
      rw [e]
      clear e h0
      go_wp2_with fail
      refine (find_any p v3 fs tnm _ c1 O1.out.reads).mono ?_
      rintro e w2 ⟨rfl, hb2⟩
      have O2 : Hid (OwnD w2 B v3 fs vs) := O1.out.below hb2 (Nat.le_refl _)
      have c2 : w2.cell? ⟨p, 0, none⟩ = some v3 := (hb2.cell (p := ⟨p, 0, none⟩) (show p < w1.heap.size by omega)).trans c1
      have f2 : w2.frozen? ⟨p, 0, none⟩ = false := (hb2.frozen (p := ⟨p, 0, none⟩) (show p < w1.heap.size by omega)).trans f1
      have B2 : Hid (Below p w0 w2) := B1.out.trans (hb2.mono (by omega))
      clear hb2
      rcases O2.out.row_or with ⟨_, rfl⟩ | ⟨g, cap, rfl, hg, hrow⟩
      · simp at hk
      have hk1 := (hrow.file k hk).1
      have hfz := hrow.free (k * 3)
      have RN : Hid (RowF (w2.setCell ⟨g, k * 3, none⟩ (.string tnm)) g cap (fs.set k { fs.getD k noF with name := tnm }) (fun i => vs.getD i undef)) := hrow.setName hk tnm
      have hpg : p ≠ g := by omega
      have c3 : (w2.setCell ⟨g, k * 3, none⟩ (.string tnm)).cell? ⟨p, 0, none⟩ = some (.slice (some ⟨g, 0, none⟩) fs.length cap) := by rw [World.cell?_setCell_other _ _ _ _ (fun e => hpg (congrArg Addr.block e).symm)]; exact c2
      have f3 : (w2.setCell ⟨g, k * 3, none⟩ (.string tnm)).frozen? ⟨p, 0, none⟩ = false := (World.frozen?_setCell _ _ _ _).trans f2
      have B3 : Hid (Below p w0 (w2.setCell ⟨g, k * 3, none⟩ (.string tnm))) := B2.out.setCell (p := ⟨g, k * 3, none⟩) (show p ≤ g by omega) _
      have hle := hrow.le
      have hmx := hrow.max
      have HLS : Hid ((fs.set k { fs.getD k noF with name := tnm }).length = fs.length) := List.length_set
      unfold maxLen at hmx
      clear hrow
      have q0 : (0 : Int) ≤ (k : Int) := by omega
      have q1 : (k : Int) < (fs.length : Int) := by omega
      rcases atF_cases fs tnm with ⟨j, hj, e2, _, _⟩ | ⟨e2, _⟩
      · by_cases hjk : j = k
        · have HM : Hid (moved fs k tnm = fs.set k { fs.getD k noF with name := tnm }) := by
            show moved fs k tnm = _
            unfold moved
            rw [if_neg (by rw [e2, hjk]; simp)]
          rw [e2]
          subst hjk
          clear e2
          have hne : ((j : Int) != (j : Int)) = false := by simp
          generalize fs.set j { fs.getD j noF with name := tnm } = fs' at *
          go_wp2_with fail
          go_ret
          exact ⟨_, by rw [HF.out]; rfl, c3, fun _ => by rw [HF.out, HM.out]; have h9 := RN.out.reads; rw [HLS.out] at h9; exact h9, B3.out⟩
        · have HM : Hid (moved fs k tnm = (fs.set k { fs.getD k noF with name := tnm }).eraseIdx j) := by
            show moved fs k tnm = _
            unfold moved
            rw [if_pos (by rw [e2]; exact ⟨by omega, by omega⟩), e2]; simp
          have hj2 : j < (fs.set k { fs.getD k noF with name := tnm }).length := by rw [List.length_set]; exact hj
          rw [e2]
          clear e2
          have hne : ((j : Int) != (k : Int)) = true := by simp; omega
          have q2 : (0 : Int) ≤ (j : Int) := by omega
          rw [← HLS.out] at c3
          generalize hS : fs.set k { fs.getD k noF with name := tnm } = fs' at *
          clear hS
          go_wp2_with fail
          refine (drop_any p g cap j fs' _ _ c3 f3 (by omega) RN.out hj2).mono ?_
          rintro e w4 ⟨v4, rfl, hc4, hd4, hb4⟩
          have D4 : Hid (DiskR w4 v4 (fs'.eraseIdx j)) := hd4
          clear hd4
          go_wp2_with fail
          go_ret
          exact ⟨v4, by rw [HF.out]; rfl, hc4, fun _ => by rw [HF.out, HM.out]; exact D4.out, B3.out.trans hb4⟩
      · have HM : Hid (moved fs k tnm = fs.set k { fs.getD k noF with name := tnm }) := by
          show moved fs k tnm = _
          unfold moved
          rw [if_neg (by rw [e2]; omega)]
        rw [e2]
        clear e2
        generalize fs.set k { fs.getD k noF with name := tnm } = fs' at *
        go_wp2_with fail
        go_ret
        exact ⟨_, by rw [HF.out]; rfl, c3, fun _ => by rw [HF.out, HM.out]; have h9 := RN.out.reads; rw [HLS.out] at h9; exact h9, B3.out⟩
    · have HF : Hid (renameF fs n tnm = ([], 7)) := renameF_none h0 e
      rw [e]
      clear e h0
      go_wp2_with fail
      go_ret
      exact ⟨v3, by rw [HF.out]; rfl, c1, fun h => by rw [HF.out] at h; simp at h, B1.out⟩

set_option maxHeartbeats 400000 in
theorem rename1_any (p B q1 q2 : Nat) (v3 : Value) (fs : List FileL) (vs : List Value) (n1 : ByteArray) (n2 : ByteArray) (w : World) (hpB : p < B) (hB : B ≤ w.heap.size) (hq1 : w.cell? ⟨q1, 0, none⟩ = some (.string n1)) (hq2 : w.cell? ⟨q2, 0, none⟩ = some (.string n2)) (hc : w.cell? ⟨p, 0, none⟩ = some v3) (hf : w.frozen? ⟨p, 0, none⟩ = false) (ho : OwnD w B v3 fs vs) (hmay : mayB fs = true) (hn1 : n1.size ≤ maxLen) (hn2 : n2.size ≤ maxLen) :
    Calls Tryz.prog 55 #[.pointer (some ⟨p, 0, none⟩), .pointer (some ⟨q1, 0, none⟩), .pointer (some ⟨q2, 0, none⟩)] w fun e w4 => ∃ v4, e = .returned (.int .i64 (renameF fs n1 n2).2) ∧ w4.cell? ⟨p, 0, none⟩ = some v4 ∧ ((renameF fs n1 n2).2 = 0 → DiskR w4 v4 (renameF fs n1 n2).1) ∧ Below p w w4 := by
  have HO : Hid (OwnD w B v3 fs vs) := ho
  have HMAY : Hid (mayB fs = true) := hmay
  clear ho hmay
  go_enter Tryz.func55, Tryz.ntmps55
  go_wp2_with fail
  refine (rename_any p B v3 fs vs n1 n2 _ hpB hB hc hf HO.out HMAY.out hn1 hn2).mono ?_
  rintro e w1 ⟨v4, rfl, h1, h2, h3⟩
  have H2 : Hid ((renameF fs n1 n2).2 = 0 → DiskR w1 v4 (renameF fs n1 n2).1) := h2
  clear h2
  go_wp2_with fail
  go_ret
  exact ⟨v4, rfl, h1, H2.out, h3⟩

theorem enter_rename (args : Array Value) (w : World) : (callFunc 55 args).run Tryz.prog w = .ok (.enter 55 args) w := by go_simp

set_option maxHeartbeats 400000 in
theorem diskRename_any (v : Value) (fs : List FileL) (n1 : ByteArray) (n2 : ByteArray) (w : World) (h : DiskR w v fs) (hg : Good fs) (hn1 : n1.size ≤ maxLen) (hn2 : n2.size ≤ maxLen) :
    Calls Tryz.prog 30 #[.agg #[v], .string n1, .string n2] w fun e w' => ∃ v', e = .returned (.tuple #[.agg #[v'], .int .i64 (chF fs (renameF fs n1 n2)).2]) ∧ DiskR w' v' (chF fs (renameF fs n1 n2)).1 ∧ Below w.heap.size w w' := by
  have hmf : ∀ (fn : Fn) (first cap : Array Value) (w : World), (Instr.makeFunc fn first cap).run Tryz.prog w = .ok (.func fn first cap) w := fun _ _ _ _ => rfl
  have HG : Hid (Good fs) := hg
  have HD : Hid (DiskR w v fs) := h
  obtain ⟨a, cap, rfl, _, _, _, _⟩ := h
  clear hg
  go_enter Tryz.func30, Tryz.ntmps30
  go_wp2_with fail
  refine (changed_two _ fs (renameF fs n1 n2) 55 (.pointer (some ⟨w.heap.size + 1, 0, none⟩)) (.pointer (some ⟨w.heap.size + 2, 0, none⟩)) _ ?_ HG.out renameF_err enter_rename ?_).mono ?_
  · exact diskR_four HD.out _ _ _ _
  · intro p B w3 v3 vs h1 h2 h3 h4 h5 h6 h7 h8
    refine rename1_any p B (w.heap.size + 1) (w.heap.size + 2) v3 fs vs n1 n2 w3 h2 h3 ?_ ?_ h4 h5 h6 h8 hn1 hn2
    · exact (h7.cell (p := ⟨w.heap.size + 1, 0, none⟩) (by simp)).trans (cell_mid2 _ _ _ _ _ _)
    · exact (h7.cell (p := ⟨w.heap.size + 2, 0, none⟩) (by simp)).trans (cell_mid3 _ _ _ _ _ _)
  rintro e w1 ⟨v1, rfl, hd1, hb1⟩
  have hb1' : Below (w.heap.size + 4) ((((w.alloc (.cells #[.slice a fs.length cap] 39)).alloc (.cells #[.string n1] 9)).alloc (.cells #[.string n2] 9)).alloc (.cells #[.slice none 0 0] 39)) w1 := by simpa using hb1
  have hblk : w1.heap[w.heap.size + 3]? = some (.cells #[.slice none 0 0] 39 (0, 0)) := (hb1'.block _ (Nat.lt_succ_self _)).trans (heap_fourth _ _ _ _ _ _)
  have t1 : w1.cell? ⟨w.heap.size + 3, 0, none⟩ = some (.slice none 0 0) := by rw [cell_of_row w1 _ _ _ _ _ hblk]; rfl
  have t2 : w1.frozen? ⟨w.heap.size + 3, 0, none⟩ = false := by simp only [World.frozen?, hblk]; simp
  have B1 : Hid (Below w.heap.size w w1) := below_four hb1'
  have D2 : Hid (∀ y, DiskR (w1.setCell ⟨w.heap.size + 3, 0, none⟩ y) v1 (chF fs (renameF fs n1 n2)).1) := fun y => hd1.setBox hblk
  obtain ⟨a1, c1, rfl, _, _, _, _⟩ := hd1
  clear hb1 hb1' hblk
  generalize hq : chF fs (renameF fs n1 n2) = q at *
  have HQ : Hid (chF fs (renameF fs n1 n2) = q) := hq
  clear hq
  go_wp2_with fail
  exact bodyPost_ret (v := .tuple #[.agg #[.slice a1 q.1.length c1], .int .i64 q.2]) (by simp [results, Tryz.results30, go_sem, t1]) rfl ⟨_, by rw [HQ.out], by rw [HQ.out]; exact D2.out _, B1.out.setCell (show w.heap.size ≤ w.heap.size + 3 by omega) _⟩
end Go.Proofs.YtkgdenbabafeoaaGreatDoor

namespace Go.Proofs.YtkgdenbabafeoaaGreatDoor
set_option maxRecDepth 100000
open Go.ChangeShapes Go.WideShapes Go.ChangeAt Go.RowKit

def sealE (fs : List FileL) (n : Int) : List FileL × Int :=
  if 0 ≤ n ∧ n ≤ 1 then (if (chF fs (syncF fs nxt)).2 = 0 then chF (chF fs (syncF fs nxt)).1 (renameF (chF fs (syncF fs nxt)).1 nxt (slotB n)) else ([], (chF fs (syncF fs nxt)).2)) else ([], 2)
theorem sealE_no {fs : List FileL} {n : Int} (h : ¬ (0 ≤ n ∧ n ≤ 1)) : sealE fs n = ([], 2) := by rw [sealE, if_neg h]
theorem sealE_err {fs : List FileL} {n : Int} (h : 0 ≤ n ∧ n ≤ 1) (h2 : ¬ (chF fs (syncF fs nxt)).2 = 0) : sealE fs n = ([], (chF fs (syncF fs nxt)).2) := by rw [sealE, if_pos h, if_neg h2]
theorem sealE_yes {fs : List FileL} {n : Int} (h : 0 ≤ n ∧ n ≤ 1) (h2 : (chF fs (syncF fs nxt)).2 = 0) : sealE fs n = chF (chF fs (syncF fs nxt)).1 (renameF (chF fs (syncF fs nxt)).1 nxt (slotB n)) := by rw [sealE, if_pos h, if_pos h2]
theorem slotB_max (n : Int) : (slotB n).size ≤ maxLen := by rw [slotB_size]; decide
theorem good_sealE {fs : List FileL} {n : Int} (hg : Good fs) : Good (sealE fs n).1 := by
  unfold sealE
  split
  · split
    · exact good_ch (good_ch hg (good_sync hg)) (good_rename (good_ch hg (good_sync hg)) (slotB_max n))
    · exact good_nil
  · exact good_nil
theorem DiskR.nil (w : World) : DiskR w (.slice none 0 0) [] := ⟨none, 0, rfl, by simp, by simp [maxLen], fun _ => rfl, fun h => by simp at h⟩
theorem DskP.none {w w' : World} {f : Int} (hb : Below w.heap.size w w') : DskP w ([], f) (.returned (.tuple #[.agg #[.slice none 0 0], .int .i64 f])) w' := ⟨_, rfl, DiskR.nil _, hb⟩
theorem sync_len {fs : List FileL} {n : ByteArray} : (chF fs (syncF fs n)).1.length ≤ fs.length := by
  unfold chF
  split
  · unfold syncF
    split <;> simp
  · simp
end Go.Proofs.YtkgdenbabafeoaaGreatDoor

namespace Go.Proofs.YtkgdenbabafeoaaGreatDoor
set_option maxRecDepth 100000
open Go.ChangeShapes Go.WideShapes Go.ChangeAt Go.RowKit

/-- How many bytes of a file stay. -/
def endF (keep : Int) (f : FileL) : Int := f.synced + min keep ((f.data.length : Int) - f.synced)
/-- A file behind a crash. -/
def crash1 (keep : Int) (f : FileL) : FileL := ⟨f.name, f.data.take (endF keep f).toNat, endF keep f⟩
/-- P3.6, of a disk that may be. -/
def crashF (fs : List FileL) (keep : Int) : List FileL × Int := if keep < 0 then ([], 2) else (fs.map (crash1 keep), 0)
theorem crashF_neg {fs : List FileL} {keep : Int} (h : keep < 0) : crashF fs keep = ([], 2) := by simp [crashF, h]
theorem crashF_pos {fs : List FileL} {keep : Int} (h : ¬ keep < 0) : crashF fs keep = (fs.map (crash1 keep), 0) := by simp [crashF, h]
theorem crashF_err {fs : List FileL} {keep : Int} : (crashF fs keep).2 ≠ 0 → (crashF fs keep).1 = [] := by
  by_cases h : keep < 0
  · rw [crashF_neg h]; simp
  · rw [crashF_pos h]; simp
/-- The first k files behind a crash. -/
def crashTo (fs : List FileL) (keep : Int) (k : Nat) : List FileL := (fs.take k).map (crash1 keep) ++ fs.drop k
theorem crashTo_len (fs : List FileL) (keep : Int) (k : Nat) : (crashTo fs keep k).length = fs.length := by
  simp [crashTo]; omega
theorem crashTo_zero (fs : List FileL) (keep : Int) : crashTo fs keep 0 = fs := by simp [crashTo]
theorem crashTo_all {fs : List FileL} {keep : Int} {k : Nat} (h : fs.length ≤ k) : crashTo fs keep k = fs.map (crash1 keep) := by
  simp [crashTo, List.take_of_length_le h, List.drop_eq_nil_of_le h]
theorem crashTo_at {fs : List FileL} {keep : Int} {k : Nat} (h : k < fs.length) : (crashTo fs keep k).getD k noF = fs.getD k noF := by
  have hl : ((fs.take k).map (crash1 keep)).length = k := by simp; omega
  rw [crashTo, List.getD_eq_getElem?_getD, List.getElem?_append_right (by omega), hl, Nat.sub_self, List.getElem?_drop, Nat.add_zero, ← List.getD_eq_getElem?_getD]
theorem crashTo_succ {fs : List FileL} {keep : Int} {k : Nat} (h : k < fs.length) : crashTo fs keep (k + 1) = (crashTo fs keep k).set k (crash1 keep (fs.getD k noF)) := by
  have hl : ((fs.take k).map (crash1 keep)).length = k := by simp; omega
  have hd : fs.drop k = fs.getD k noF :: fs.drop (k + 1) := by rw [List.drop_eq_getElem_cons h, List.getD_eq_getElem?_getD, List.getElem?_eq_getElem h]; rfl
  rw [crashTo, crashTo, take_snocF h, List.map_append, hd, List.set_append_right _ _ (by omega), hl, Nat.sub_self]
  simp
theorem getD_map_crash {fs : List FileL} {keep : Int} {i : Nat} (h : i < fs.length) : (fs.map (crash1 keep)).getD i noF = crash1 keep (fs.getD i noF) := by
  rw [List.getD_eq_getElem?_getD, List.getElem?_map, List.getD_eq_getElem?_getD, List.getElem?_eq_getElem h]; rfl
theorem good_crash {fs : List FileL} {keep : Int} (hg : Good fs) : Good (crashF fs keep).1 := by
  by_cases h : keep < 0
  · rw [crashF_neg h]; exact good_nil
  · rw [crashF_pos h]
    intro i hi
    have hi' : i < fs.length := by simpa using hi
    obtain ⟨h1, h2, h3, h4, h5⟩ := hg i hi'
    show GoodF ((fs.map (crash1 keep)).getD i noF)
    rw [getD_map_crash hi']
    generalize fs.getD i noF = f at *
    refine ⟨fun x hx => h1 x (List.mem_of_mem_take hx), ?_, ?_, h4, ?_⟩
    · show -9223372036854775808 ≤ endF keep f
      unfold endF; omega
    · show endF keep f ≤ 9223372036854775807
      unfold endF; omega
    · show (f.data.take _).length ≤ _
      rw [List.length_take]; omega

/-- The row while the files are gone through. -/
theorem RowF.crash {w : World} {g cap k : Nat} {fs : List FileL} {vs : Nat → Value} {keep : Int} {v' : Value} (h : RowF w g cap (crashTo fs keep k) vs) (hk : k < fs.length) (hr : Reads .u8 w v' (crash1 keep (fs.getD k noF)).data) :
    RowF ((w.setCell ⟨g, k * 3 + 1, none⟩ v').setCell ⟨g, k * 3 + 2, none⟩ (.int .i64 (endF keep (fs.getD k noF)))) g cap (crashTo fs keep (k + 1)) (fun i => if i = k then v' else vs i) := by
  have hl : k < (crashTo fs keep k).length := by rw [crashTo_len]; exact hk
  have h1 := h.setData hl hr
  have h2 := h1.setSynced (k := k) (by rw [List.length_set]; exact hl) (endF keep (fs.getD k noF))
  rw [getD_set_eq hl, List.set_set, crashTo_at hk] at h2
  rw [crashTo_succ hk]
  exact h2

theorem RowF.crash2 {w5 : World} {g cap k : Nat} {fs : List FileL} {us : Nat → Value} {keep : Int} (h : RowF w5 g cap ((crashTo fs keep k).set k { fs.getD k noF with data := (crash1 keep (fs.getD k noF)).data }) us) (hk : k < fs.length) :
    RowF (w5.setCell ⟨g, k * 3 + 2, none⟩ (.int .i64 (endF keep (fs.getD k noF)))) g cap (crashTo fs keep (k + 1)) us := by
  have hl : k < (crashTo fs keep k).length := by rw [crashTo_len]; exact hk
  have h2 := h.setSynced (k := k) (by rw [List.length_set]; exact hl) (endF keep (fs.getD k noF))
  rw [getD_set_eq hl, List.set_set] at h2
  rw [crashTo_succ hk]
  exact h2
theorem RowF.drew {w : World} {g cap : Nat} {fs : List FileL} {vs : Nat → Value} (h : RowF w g cap fs vs) : RowF w.drew g cap fs vs := h.below (Below.refl w.heap.size w).drew (Nat.le_refl _)

set_option maxHeartbeats 1000000 in
set_option maxRecDepth 100000 in
theorem crash_any (p B : Nat) (v3 : Value) (fs : List FileL) (vs : List Value) (keep : Int) (w : World) (hpB : p < B) (_hB : B ≤ w.heap.size) (hc : w.cell? ⟨p, 0, none⟩ = some v3) (_hf : w.frozen? ⟨p, 0, none⟩ = false) (ho : OwnD w B v3 fs vs) (hmay : mayB fs = true) (hkb : -9223372036854775808 ≤ keep ∧ keep ≤ 9223372036854775807) :
    Calls Tryz.prog 33 #[.pointer (some ⟨p, 0, none⟩), .int .i64 keep] w fun e w4 => ∃ v4, e = .returned (.int .i64 (crashF fs keep).2) ∧ w4.cell? ⟨p, 0, none⟩ = some v4 ∧ ((crashF fs keep).2 = 0 → DiskR w4 v4 (crashF fs keep).1) ∧ Below p w w4 := by
  have lp : p < w.heap.size := World.block_lt_of_cell? w _ hc
  have HO : Hid (OwnD w B v3 fs vs) := ho
  have HMAY : Hid (mayB fs = true) := hmay
  clear ho hmay
  by_cases hneg : keep < 0
  · have HF : Hid (crashF fs keep = ([], 2)) := crashF_neg hneg
    go_enter Tryz.func33, Tryz.ntmps33
    go_wp2_with fail
    go_ret
    exact ⟨v3, by rw [HF.out]; rfl, hc, fun h => by rw [HF.out] at h; simp at h, Below.refl _ _⟩
  · have HF : Hid (crashF fs keep = (fs.map (crash1 keep), 0)) := crashF_pos hneg
    rcases HO.out.row_or with ⟨rfl, rfl⟩ | ⟨g, cap, rfl, hg, hrow⟩
    · go_enter Tryz.func33, Tryz.ntmps33
      go_wp2_with fail
      refine wp_loop_rounds 1 ?_
      rw [rounds_succ]
      go_wp2_with fail
      go_ret
      exact ⟨_, by rw [HF.out]; rfl, hc, fun _ => by rw [HF.out]; exact diskR_nil _, Below.refl _ _⟩
    · have HR : Hid (RowF w g cap fs (fun i => vs.getD i undef)) := hrow
      have hle := hrow.le
      have hmx := hrow.max
      have h40 := (may_iff.1 HMAY.out).1
      have hpg : p ≠ g := by omega
      unfold maxLen at hmx
      clear hrow
      go_enter Tryz.func33, Tryz.ntmps33
      go_wp2_with fail
      go_loopw [16] (fun i wr => ∃ (k : Nat) (us : Nat → Value), k ≤ fs.length ∧ i = .int .i64 k ∧ RowF wr g cap (crashTo fs keep k) us ∧ wr.cell? ⟨p, 0, none⟩ = some (.slice (some ⟨g, 0, none⟩) fs.length cap) ∧ Below p w wr) (fun i _ => fs.length - (intOf i).toNat)
      case atStart => exact ⟨0, _, by omega, rfl, by rw [crashTo_zero]; exact HR.out, hc, Below.refl _ _⟩
      case round =>
        obtain ⟨k, us, hk, rfl, hrow, hcp, hbel⟩ := hrel
        have RW : Hid (RowF wr g cap (crashTo fs keep k) us) := hrow
        have HB : Hid (Below p w wr) := hbel
        clear hbel
        by_cases hlt : k < fs.length
        · have hl : k < (crashTo fs keep k).length := by rw [crashTo_len]; exact hlt
          obtain ⟨c1, c2, c3, c4⟩ := hrow.file k hl
          have z1 := hrow.free (k * 3 + 1)
          have z2 := hrow.free (k * 3 + 2)
          rw [crashTo_at hlt] at c1 c3 c4
          obtain ⟨o1, o2, o3, o4⟩ := ok_iff.1 ((may_iff.1 HMAY.out).2.1 k hlt)
          have HST : Hid (∀ v', Reads .u8 wr v' (crash1 keep (fs.getD k noF)).data → RowF ((wr.setCell ⟨g, k * 3 + 1, none⟩ v').setCell ⟨g, k * 3 + 2, none⟩ (.int .i64 (endF keep (fs.getD k noF)))) g cap (crashTo fs keep (k + 1)) (fun i => if i = k then v' else us i)) := fun v' hr => RW.out.crash hlt hr
          obtain ⟨da, dc, hdv, hd1, hd2, hd3, hd4⟩ := c4
          rw [hdv] at c2
          have HDD : Hid (∀ x, da = some x → ∀ i, i < (fs.getD k noF).data.length → wr.cell? (x.add i) = some (.int .u8 ((fs.getD k noF).data.getD i 0))) := hd4
          have HD3 : Hid (da = none → dc = 0) := hd3
          have HD2 : Hid (dc ≤ maxLen) := hd2
          unfold maxLen at hd2
          clear hrow hdv hd3 hd4 o1
          generalize fs.getD k noF = f at *
          obtain ⟨mm, hmm⟩ : ∃ mm, min keep ((f.data.length : Int) - f.synced) = mm := ⟨_, rfl⟩
          have hm0 : 0 ≤ mm := by omega
          have hm1 : mm ≤ (f.data.length : Int) - f.synced := by omega
          have HEND : Hid (endF keep f = f.synced + mm) := by show f.synced + min _ _ = _; rw [hmm]
          have hmin : ∀ (w : World) (ats : Array TypeId) (ty : TypeId), (Builtin.min_ ats ty #[.int .i64 keep, .int .i64 ((f.data.length : Int) - f.synced)]).run Tryz.prog w = .ok (.int .i64 mm) w := fun w ats ty => by
            have e9 : (if (f.data.length : Int) - f.synced < keep then (f.data.length : Int) - f.synced else keep) = mm := by rw [← hmm]; split <;> omega
            rw [run_min_int2, e9]
          have q0 : (0 : Int) ≤ (k : Int) := by omega
          have q1 : (k : Int) < (fs.length : Int) := by omega
          clear hmm
          go_wp2_with fail
          go_region
          go_wp2_with fail
          have hE : (f.synced + mm).toNat ≤ f.data.length := by omega
          have el : (f.data.take (f.synced + mm).toNat).length = (f.synced + mm).toNat := List.length_take_of_le hE
          have RN : Reads .u8 wr (.slice da (f.synced + mm).toNat (f.synced + mm).toNat) (crash1 keep f).data := by
            show Reads .u8 wr _ (f.data.take (endF keep f).toNat)
            rw [HEND.out]
            refine ⟨da, (f.synced + mm).toNat, by rw [el], by rw [el]; omega, by have := HD2.out; omega, fun e => by have := HD3.out e; omega, fun x hx i hi => ?_⟩
            rw [el] at hi
            rw [HDD.out x hx i (by omega), List.getD_eq_getElem?_getD, List.getD_eq_getElem?_getD, List.getElem?_take_of_lt hi]
          have R2 := HST.out _ RN
          rw [HEND.out] at R2
          go_roundw
          case rel => exact ⟨k + 1, _, by omega, by go_num, R2.drew, by rw [World.cell?_drew, World.cell?_setCell_other _ _ _ _ (fun e => hpg (congrArg Addr.block e).symm), World.cell?_setCell_other _ _ _ _ (fun e => hpg (congrArg Addr.block e).symm)]; exact hcp, ((HB.out.setCell (p := ⟨g, k * 3 + 1, none⟩) (show p ≤ g by omega) _).setCell (p := ⟨g, k * 3 + 2, none⟩) (show p ≤ g by omega) _).drew⟩
          case measure => simp [intOf]; omega
        · have HC : Hid (crashTo fs keep k = fs.map (crash1 keep)) := crashTo_all (by omega)
          have DR : Hid (DiskR wr (.slice (some ⟨g, 0, none⟩) fs.length cap) (fs.map (crash1 keep))) := by
            have h9 := RW.out.reads
            rw [crashTo_len, HC.out] at h9
            exact h9
          clear hrow
          go_wp2_with fail
          go_ret
          exact ⟨_, by rw [HF.out]; rfl, hcp, fun _ => by rw [HF.out]; exact DR.out, HB.out⟩

set_option maxHeartbeats 400000 in
theorem crash1_any (p B q1 : Nat) (v3 : Value) (fs : List FileL) (vs : List Value) (n1 : Int) (w : World) (hpB : p < B) (hB : B ≤ w.heap.size) (hq1 : w.cell? ⟨q1, 0, none⟩ = some (.int .i64 n1)) (hc : w.cell? ⟨p, 0, none⟩ = some v3) (hf : w.frozen? ⟨p, 0, none⟩ = false) (ho : OwnD w B v3 fs vs) (hmay : mayB fs = true) (hn1 : -9223372036854775808 ≤ n1 ∧ n1 ≤ 9223372036854775807) :
    Calls Tryz.prog 32 #[.pointer (some ⟨p, 0, none⟩), .pointer (some ⟨q1, 0, none⟩)] w fun e w4 => ∃ v4, e = .returned (.int .i64 (crashF fs n1).2) ∧ w4.cell? ⟨p, 0, none⟩ = some v4 ∧ ((crashF fs n1).2 = 0 → DiskR w4 v4 (crashF fs n1).1) ∧ Below p w w4 := by
  have HO : Hid (OwnD w B v3 fs vs) := ho
  have HMAY : Hid (mayB fs = true) := hmay
  clear ho hmay
  go_enter Tryz.func32, Tryz.ntmps32
  go_wp2_with fail
  refine (crash_any p B v3 fs vs n1 _ hpB hB hc hf HO.out HMAY.out hn1).mono ?_
  rintro e w1 ⟨v4, rfl, h1, h2, h3⟩
  have H2 : Hid ((crashF fs n1).2 = 0 → DiskR w1 v4 (crashF fs n1).1) := h2
  clear h2
  go_wp2_with fail
  go_ret
  exact ⟨v4, rfl, h1, H2.out, h3⟩

theorem enter_crash (args : Array Value) (w : World) : (callFunc 32 args).run Tryz.prog w = .ok (.enter 32 args) w := by go_simp

set_option maxHeartbeats 400000 in
theorem diskCrash_any (v : Value) (fs : List FileL) (n1 : Int) (w : World) (h : DiskR w v fs) (hg : Good fs) (hn1 : -9223372036854775808 ≤ n1 ∧ n1 ≤ 9223372036854775807) :
    Calls Tryz.prog 12 #[.agg #[v], .int .i64 n1] w fun e w' => ∃ v', e = .returned (.tuple #[.agg #[v'], .int .i64 (chF fs (crashF fs n1)).2]) ∧ DiskR w' v' (chF fs (crashF fs n1)).1 ∧ Below w.heap.size w w' := by
  have hmf : ∀ (fn : Fn) (first cap : Array Value) (w : World), (Instr.makeFunc fn first cap).run Tryz.prog w = .ok (.func fn first cap) w := fun _ _ _ _ => rfl
  have HG : Hid (Good fs) := hg
  have HD : Hid (DiskR w v fs) := h
  obtain ⟨a, cap, rfl, _, _, _, _⟩ := h
  clear hg
  go_enter Tryz.func12, Tryz.ntmps12
  go_wp2_with fail
  refine (changed_one _ fs (crashF fs n1) 32 (.pointer (some ⟨w.heap.size + 1, 0, none⟩)) _ ?_ HG.out crashF_err enter_crash ?_).mono ?_
  · exact diskR_three HD.out _ _ _
  · intro p B w3 v3 vs h1 h2 h3 h4 h5 h6 h7 h8
    refine crash1_any p B (w.heap.size + 1) v3 fs vs n1 w3 h2 h3 ?_ h4 h5 h6 h8 hn1
    exact (h7.cell (p := ⟨w.heap.size + 1, 0, none⟩) (by simp)).trans (cell_mid _ _ _ _ _)
  rintro e w1 ⟨v1, rfl, hd1, hb1⟩
  have hb1' : Below (w.heap.size + 3) (((w.alloc (.cells #[.slice a fs.length cap] 39)).alloc (.cells #[.int .i64 n1] 3)).alloc (.cells #[.slice none 0 0] 39)) w1 := by simpa using hb1
  have hblk : w1.heap[w.heap.size + 2]? = some (.cells #[.slice none 0 0] 39 (0, 0)) := (hb1'.block _ (Nat.lt_succ_self _)).trans (heap_third _ _ _ _ _)
  have t1 : w1.cell? ⟨w.heap.size + 2, 0, none⟩ = some (.slice none 0 0) := by rw [cell_of_row w1 _ _ _ _ _ hblk]; rfl
  have t2 : w1.frozen? ⟨w.heap.size + 2, 0, none⟩ = false := by simp only [World.frozen?, hblk]; simp
  have B1 : Hid (Below w.heap.size w w1) := below_three hb1'
  have D2 : Hid (∀ y, DiskR (w1.setCell ⟨w.heap.size + 2, 0, none⟩ y) v1 (chF fs (crashF fs n1)).1) := fun y => hd1.setBox hblk
  obtain ⟨a1, c1, rfl, _, _, _, _⟩ := hd1
  clear hb1 hb1' hblk
  generalize hq : chF fs (crashF fs n1) = q at *
  have HQ : Hid (chF fs (crashF fs n1) = q) := hq
  clear hq
  go_wp2_with fail
  exact bodyPost_ret (v := .tuple #[.agg #[.slice a1 q.1.length c1], .int .i64 q.2]) (by simp [results, Tryz.results12, go_sem, t1]) rfl ⟨_, by rw [HQ.out], by rw [HQ.out]; exact D2.out _, B1.out.setCell (show w.heap.size ≤ w.heap.size + 2 by omega) _⟩
end Go.Proofs.YtkgdenbabafeoaaGreatDoor

namespace Go.Proofs.YtkgdenbabafeoaaGreatDoor
set_option maxRecDepth 100000
open Go.ChangeShapes Go.WideShapes Go.ChangeAt Go.RowKit

def keptV (x : Ml) : Ml := (pickF x.2 4398046511106 - 1, pickF x.1 201 - 1)
/-- What is saved, out of raw numbers. -/
def keptS (x : SvS) : SvS := ⟨pickF x.step 100001, pickF x.phase 2, x.fresh, (x.vals.take 10).map keptV, sortM (postN 20 x.mail)⟩
theorem keptV_ok (x : Ml) : valS (keptV x) = true := by
  have h1 := pickF_bd x.2 4398046511106 (by decide)
  have h2 := pickF_bd x.1 201 (by decide)
  rw [valS_iff]
  unfold keptV
  omega
theorem kept_mail (x : SvS) : ∀ m ∈ (keptS x).mail, 0 ≤ m.1 ∧ m.1 < 6 ∧ 0 ≤ m.2 ∧ m.2 < 1000 := fun m hm => by
  have h1 := (sortM_perm (postN 20 x.mail)).mem_iff.1 hm
  unfold postN at h1
  obtain ⟨y, _, rfl⟩ := List.mem_map.1 h1
  exact postX_B y
theorem kept_count (x : SvS) : (keptS x).mail.length = min x.mail.length 20 := by
  show (sortM (postN 20 x.mail)).length = _
  rw [sortM_len]
  unfold postN
  rw [List.length_map, List.length_take]
  omega
theorem kept_may (x : SvS) : svMay (keptS x) = true := by
  rw [svMay_iff]
  have h1 := pickF_bd x.step 100001 (by decide)
  have h2 := pickF_bd x.phase 2 (by decide)
  refine ⟨⟨h1.1, by show pickF x.step 100001 ≤ _; omega, by show pickF x.phase 2 = 0 ∨ pickF x.phase 2 = 1; omega⟩, ?_, ?_, ?_, ?_, ?_⟩
  · show ((x.vals.take 10).map keptV).length ≤ _
    rw [List.length_map, List.length_take]; omega
  · rw [valA_iff]
    intro y hy
    obtain ⟨z, _, rfl⟩ := List.mem_map.1 hy
    exact keptV_ok z
  · rw [kept_count]; omega
  · exact (srtMb_iff _).2 (in_srtM (sortM_sorted _))
  · rw [mayA_iff]
    intro m hm
    have := kept_mail x m hm
    rw [mayM_iff]; omega
theorem kept_nums (x : SvS) : (numsS (keptS x)).length ≤ 65 ∧ 5 ≤ (numsS (keptS x)).length := by
  rw [numsS_len, kept_count]
  have : (keptS x).vals.length ≤ 10 := by show ((x.vals.take 10).map keptV).length ≤ _; rw [List.length_map, List.length_take]; omega
  omega
theorem kept_short (x : SvS) : (bytN (numsS (keptS x))).length ≤ 650 ∧ 5 ≤ (bytN (numsS (keptS x))).length := by
  have h1 := bytN_len (numsS (keptS x))
  have h2 := bytN_ge (numsS (keptS x))
  have h3 := kept_nums x
  omega
/-- Its bytes. -/
def kb (x : SvS) : List Int := wrap (bytN (numsS (keptS x)))
theorem kept_enc (x : SvS) : encS (keptS x) = (kb x, 0) := encS_yes (kept_may x) (by have := kept_short x; omega)
theorem kb_dec (x : SvS) : decS (kb x) = (keptS x, 0) := decS_yes (kept_enc x)
theorem kb_bytes (x : SvS) : ∀ y ∈ kb x, 0 ≤ y ∧ y ≤ 255 := by
  have := encS_bd (keptS x)
  rw [kept_enc] at this
  exact this
theorem kb_len (x : SvS) : 8 < (kb x).length ∧ (kb x).length ≤ 1000 := by
  have h := kept_short x
  unfold kb
  rw [wrap_len]
  have := put_len (((bytN (numsS (keptS x))).length : Nat) : Int)
  omega
theorem kept_mlB (x : SvS) : ∀ m ∈ (keptS x).mail, mlB m := fun m hm => by
  have := kept_mail x m hm
  unfold mlB i64B
  omega
theorem kept_stp (x : SvS) : 0 ≤ (keptS x).step ∧ (keptS x).step ≤ 100000 := by
  have h1 := pickF_bd x.step 100001 (by decide)
  exact ⟨h1.1, by show pickF x.step 100001 ≤ _; omega⟩

/-- A file that is sealed; one that is written. -/
def fS (n : Int) (b : List Int) : FileL := ⟨slotB n, b, b.length⟩
def fN (b : List Int) : FileL := ⟨nxt, b, 0⟩
theorem nx0 : ¬ nxt = slot0 := by decide
theorem nx1 : ¬ nxt = slot1 := by decide
theorem x0n : ¬ slot0 = nxt := by decide
theorem x1n : ¬ slot1 = nxt := by decide
theorem x01 : ¬ slot0 = slot1 := by decide
theorem x10 : ¬ slot1 = slot0 := by decide
theorem sb0 : slotB 0 = slot0 := rfl
theorem sb1 : slotB 1 = slot1 := rfl
theorem nm_nx : nmB nxt = true := by decide
theorem nm_s0 : nmB slot0 = true := by decide
theorem nm_s1 : nmB slot1 = true := by decide
section
variable {b c d : List Int} {n : Int}
theorem may_0 : mayB [] = true := rfl
theorem may_1n (hb : b.length ≤ 1000) : mayB [fN b] = true := by simp [mayB, okB, fN, distB, nm_nx]; omega
theorem may_1s (hb : b.length ≤ 1000) (hn : n = 0 ∨ n = 1) : mayB [fS n b] = true := by
  rcases hn with rfl | rfl
  · simp [mayB, okB, fS, distB, sb0, nm_s0]; omega
  · simp [mayB, okB, fS, distB, sb1, nm_s1]; omega
theorem may_2n (hb : b.length ≤ 1000) (hc : c.length ≤ 1000) (hn : n = 0 ∨ n = 1) : mayB [fS n b, fN c] = true := by
  rcases hn with rfl | rfl
  · simp [mayB, okB, fS, fN, distB, sb0, nm_s0, nm_nx, nx0]; omega
  · simp [mayB, okB, fS, fN, distB, sb1, nm_s1, nm_nx, nx1]; omega
theorem may_2s (hb : b.length ≤ 1000) (hc : c.length ≤ 1000) (hn : n = 0 ∨ n = 1) : mayB [fS n b, fS (1 - n) c] = true := by
  rcases hn with rfl | rfl
  · simp [mayB, okB, fS, distB, sb0, sb1, nm_s0, nm_s1, x10]; omega
  · simp [mayB, okB, fS, distB, sb0, sb1, nm_s0, nm_s1, x01]; omega
theorem may_3 {k : Int} {e : List Int} (hb : b.length ≤ 1000) (hc : c.length ≤ 1000) (he : e.length ≤ 1000) (hk : 0 ≤ k ∧ k ≤ e.length) (hn : n = 0 ∨ n = 1) : mayB [fS n b, fS (1 - n) c, ⟨nxt, e, k⟩] = true := by
  rcases hn with rfl | rfl
  · simp [mayB, okB, fS, distB, sb0, sb1, nm_s0, nm_s1, nm_nx, x10, nx0, nx1]; omega
  · simp [mayB, okB, fS, distB, sb0, sb1, nm_s0, nm_s1, nm_nx, x01, nx0, nx1]; omega
theorem put_0 (hb : b.length ≤ 1000) : putE [] (b, 0) = ([fN b], 0) := by
  rw [putE_yes rfl may_0]
  simp [lessF, chF, may_0, appendF, nm_nx, atF, putF, fN]
  omega
theorem seal_1 (hb : b.length ≤ 1000) (hn : n = 0 ∨ n = 1) : sealE [fN b] n = ([fS n b], 0) := by
  have e1 : chF [fN b] (syncF [fN b] nxt) = ([⟨nxt, b, b.length⟩], 0) := by rw [chF, if_pos (may_1n hb)]; simp [syncF, atF, fN, noF]
  have m1 : mayB [⟨nxt, b, (b.length : Int)⟩] = true := by simp [mayB, okB, distB, nm_nx]; omega
  rw [sealE_yes (by omega) (by rw [e1]), e1, chF, if_pos m1]
  rcases hn with rfl | rfl
  · simp [renameF, sb0, nm_s0, atF, moved, fS, nx0, noF]
  · simp [renameF, sb1, nm_s1, atF, moved, fS, nx1, noF]
theorem put_1 (hb : b.length ≤ 1000) (hc : c.length ≤ 1000) (hn : n = 0 ∨ n = 1) : putE [fS n b] (c, 0) = ([fS n b, fN c], 0) := by
  rw [putE_yes rfl (may_1s hb hn)]
  have m := may_1s hb hn
  rcases hn with rfl | rfl
  · have ea : atF [fS 0 b] nxt = -1 := by simp [atF, fS, sb0, x0n]
    rw [lessF_none (by rw [ea]; decide)]
    simp [chF, m, appendF, nm_nx, ea, putF, fN]
    omega
  · have ea : atF [fS 1 b] nxt = -1 := by simp [atF, fS, sb1, x1n]
    rw [lessF_none (by rw [ea]; decide)]
    simp [chF, m, appendF, nm_nx, ea, putF, fN]
    omega
theorem seal_2 (hb : b.length ≤ 1000) (hc : c.length ≤ 1000) (hn : n = 0 ∨ n = 1) : sealE [fS n b, fN c] (1 - n) = ([fS n b, fS (1 - n) c], 0) := by
  have m := may_2n hb hc hn
  rcases hn with rfl | rfl
  · have e1 : chF [fS 0 b, fN c] (syncF [fS 0 b, fN c] nxt) = ([fS 0 b, ⟨nxt, c, c.length⟩], 0) := by rw [chF, if_pos m]; simp [syncF, atF, fS, fN, sb0, x0n, noF]
    have m1 : mayB [fS 0 b, ⟨nxt, c, (c.length : Int)⟩] = true := by simp [mayB, okB, fS, distB, sb0, nm_s0, nm_nx, nx0]; omega
    rw [sealE_yes (by omega) (by rw [e1]), e1, chF, if_pos m1]
    simp [renameF, sb1, sb0, nm_s1, atF, moved, fS, x0n, x01, nx1, noF]
  · have e1 : chF [fS 1 b, fN c] (syncF [fS 1 b, fN c] nxt) = ([fS 1 b, ⟨nxt, c, c.length⟩], 0) := by rw [chF, if_pos m]; simp [syncF, atF, fS, fN, sb1, x1n, noF]
    have m1 : mayB [fS 1 b, ⟨nxt, c, (c.length : Int)⟩] = true := by simp [mayB, okB, fS, distB, sb1, nm_s1, nm_nx, nx1]; omega
    rw [sealE_yes (by omega) (by rw [e1]), e1, chF, if_pos m1]
    simp [renameF, sb0, sb1, nm_s0, atF, moved, fS, x1n, x10, nx0, noF]
theorem put_2 (hb : b.length ≤ 1000) (hc : c.length ≤ 1000) (hd : d.length ≤ 1000) (hn : n = 0 ∨ n = 1) : putE [fS n b, fS (1 - n) c] (d, 0) = ([fS n b, fS (1 - n) c, fN d], 0) := by
  have m := may_2s hb hc hn
  rw [putE_yes rfl m]
  have ea : atF [fS n b, fS (1 - n) c] nxt = -1 := by
    rcases hn with rfl | rfl
    · simp [atF, fS, sb0, sb1, x0n, x1n]
    · simp [atF, fS, sb0, sb1, x0n, x1n]
  rw [lessF_none (by rw [ea]; decide)]
  simp [chF, m, appendF, nm_nx, ea, putF, fN]
  omega
theorem crash_S {k : Int} (hk : 0 ≤ k) : crash1 k (fS n b) = fS n b := by
  unfold crash1 fS endF
  simp only
  have : (b.length : Int) + min k ((b.length : Int) - b.length) = b.length := by omega
  rw [this]
  simp
theorem crash_N {k : Int} : crash1 k (fN b) = ⟨nxt, b.take (min k b.length).toNat, min k b.length⟩ := by
  unfold crash1 fN endF
  simp
theorem crash_1 {k : Int} (hb : b.length ≤ 1000) (hk : 0 ≤ k) (hn : n = 0 ∨ n = 1) : chF [fS n b] (crashF [fS n b] k) = ([fS n b], 0) := by
  rw [chF, if_pos (may_1s hb hn), crashF_pos (by omega)]
  simp [crash_S hk]
theorem crash_3 {k : Int} (hb : b.length ≤ 1000) (hc : c.length ≤ 1000) (hd : d.length ≤ 1000) (hk : 0 ≤ k) (hn : n = 0 ∨ n = 1) :
    chF [fS n b, fS (1 - n) c, fN d] (crashF [fS n b, fS (1 - n) c, fN d] k) = ([fS n b, fS (1 - n) c, ⟨nxt, d.take (min k d.length).toNat, min k d.length⟩], 0) := by
  have m : mayB [fS n b, fS (1 - n) c, fN d] = true := may_3 (k := 0) hb hc hd (by omega) hn
  rw [chF, if_pos m, crashF_pos (by omega)]
  simp [crash_S hk, crash_N]
theorem put_3 {k : Int} {e : List Int} (hb : b.length ≤ 1000) (hc : c.length ≤ 1000) (hd : d.length ≤ 1000) (he : e.length ≤ 1000) (hk : 0 ≤ k ∧ k ≤ e.length) (hn : n = 0 ∨ n = 1) : putE [fS n b, fS (1 - n) c, ⟨nxt, e, k⟩] (d, 0) = ([fS n b, fS (1 - n) c, fN d], 0) := by
  rw [putE_yes rfl (may_3 hb hc he hk hn)]
  have ea : atF [fS n b, fS (1 - n) c, ⟨nxt, e, k⟩] nxt = 2 := by
    rcases hn with rfl | rfl
    · simp [atF, fS, sb0, sb1, x0n, x1n]
    · simp [atF, fS, sb0, sb1, x0n, x1n]
  have el : lessF [fS n b, fS (1 - n) c, ⟨nxt, e, k⟩] = [fS n b, fS (1 - n) c] := by
    rw [lessF_some (by rw [ea]; decide)]
    simp [removeF, ea]
  rw [el]
  have := put_2 hb hc hd hn
  rw [putE_yes rfl (may_2s hb hc hn)] at this
  have ea2 : atF [fS n b, fS (1 - n) c] nxt = -1 := by
    rcases hn with rfl | rfl
    · simp [atF, fS, sb0, sb1, x0n, x1n]
    · simp [atF, fS, sb0, sb1, x0n, x1n]
  rw [lessF_none (by rw [ea2]; decide)] at this
  exact this
theorem seal_3 (hb : b.length ≤ 1000) (hc : c.length ≤ 1000) (hd : d.length ≤ 1000) (hn : n = 0 ∨ n = 1) : sealE [fS n b, fS (1 - n) c, fN d] n = ([fS (1 - n) c, fS n d], 0) := by
  have m : mayB [fS n b, fS (1 - n) c, fN d] = true := may_3 (k := 0) hb hc hd (by omega) hn
  have m2 := may_3 (k := (d.length : Int)) hb hc hd (by omega) hn
  rcases hn with rfl | rfl
  · have e1 : chF [fS 0 b, fS (1 - 0) c, fN d] (syncF [fS 0 b, fS (1 - 0) c, fN d] nxt) = ([fS 0 b, fS (1 - 0) c, ⟨nxt, d, d.length⟩], 0) := by rw [chF, if_pos m]; simp [syncF, atF, fS, fN, sb0, sb1, x0n, x1n, noF]
    rw [sealE_yes (by omega) (by rw [e1]), e1, chF, if_pos m2]
    simp [renameF, sb0, sb1, nm_s0, atF, moved, fS, x0n, x1n, noF]
  · have e1 : chF [fS 1 b, fS (1 - 1) c, fN d] (syncF [fS 1 b, fS (1 - 1) c, fN d] nxt) = ([fS 1 b, fS (1 - 1) c, ⟨nxt, d, d.length⟩], 0) := by rw [chF, if_pos m]; simp [syncF, atF, fS, fN, sb0, sb1, x0n, x1n, noF]
    rw [sealE_yes (by omega) (by rw [e1]), e1, chF, if_pos m2]
    simp [renameF, sb0, sb1, nm_s1, atF, moved, fS, x0n, x1n, noF]
theorem load_at {fs : List FileL} {s : SvS} (hn : n = 0 ∨ n = 1) (h : readF fs (slotB n) = (b, 0)) (hd : decS b = (s, 0)) : loadE fs n = (s, 0) := by
  rw [loadE_yes (by omega) (by rw [h]), h, hd]
theorem load_1 {x : SvS} (hn : n = 0 ∨ n = 1) : loadE [fS n (kb x)] n = (keptS x, 0) := by
  have m := may_1s (kb_len x).2 hn
  refine load_at (b := kb x) hn ?_ (kb_dec x)
  rcases hn with rfl | rfl
  · rw [readF, if_pos m]; simp [atF, fS, sb0]
  · rw [readF, if_pos m]; simp [atF, fS, sb1]
/-- Of a disk with both slots, whatever stands behind them. -/
theorem load_a {x : SvS} {r : List FileL} (hn : n = 0 ∨ n = 1) (hm : mayB (fS n (kb x) :: r) = true) : loadE (fS n (kb x) :: r) n = (keptS x, 0) := by
  refine load_at (b := kb x) hn ?_ (kb_dec x)
  rcases hn with rfl | rfl
  · rw [readF, if_pos hm]; simp [atF, fS, sb0]
  · rw [readF, if_pos hm]; simp [atF, fS, sb1]
theorem load_b {x : SvS} {r : List FileL} (hn : n = 0 ∨ n = 1) (hm : mayB (fS n b :: fS (1 - n) (kb x) :: r) = true) : loadE (fS n b :: fS (1 - n) (kb x) :: r) (1 - n) = (keptS x, 0) := by
  refine load_at (b := kb x) (by omega) ?_ (kb_dec x)
  rcases hn with rfl | rfl
  · rw [readF, if_pos hm]; simp [atF, fS, sb0, sb1, x01]
  · rw [readF, if_pos hm]; simp [atF, fS, sb0, sb1, x10]
theorem load_c {x : SvS} {r : List FileL} (hn : n = 0 ∨ n = 1) (hm : mayB (fS (1 - n) b :: fS n (kb x) :: r) = true) : loadE (fS (1 - n) b :: fS n (kb x) :: r) n = (keptS x, 0) := by
  refine load_at (b := kb x) hn ?_ (kb_dec x)
  rcases hn with rfl | rfl
  · rw [readF, if_pos hm]; simp [atF, fS, sb0, sb1, x10]
  · rw [readF, if_pos hm]; simp [atF, fS, sb0, sb1, x01]
theorem load_d {x : SvS} {r : List FileL} (hn : n = 0 ∨ n = 1) (hm : mayB (fS (1 - n) (kb x) :: r) = true) : loadE (fS (1 - n) (kb x) :: r) (1 - n) = (keptS x, 0) := load_a (by omega) hm
theorem good_of {l : List FileL} (h : ∀ f ∈ l, GoodF f) : Good l := fun k hk => by
  have e : l.getD k noF = l[k] := by rw [List.getD_eq_getElem?_getD, List.getElem?_eq_getElem hk]; rfl
  rw [e]; exact h _ (List.getElem_mem hk)
theorem good_fS (h1 : b.length ≤ 1000) (h2 : ∀ y ∈ b, 0 ≤ y ∧ y ≤ 255) : GoodF (fS n b) := ⟨h2, by show (-9223372036854775808 : Int) ≤ (b.length : Int); omega, by show (b.length : Int) ≤ 9223372036854775807; omega, slotB_max n, by show b.length ≤ _; omega⟩
theorem good_fX {k : Int} (h1 : b.length ≤ 1000) (h2 : ∀ y ∈ b, 0 ≤ y ∧ y ≤ 255) (hk : 0 ≤ k ∧ k ≤ 1000) : GoodF ⟨nxt, b, k⟩ := ⟨h2, by show (-9223372036854775808 : Int) ≤ k; omega, by show k ≤ 9223372036854775807; omega, nxt_size, by show b.length ≤ _; omega⟩
theorem good_fN (h1 : b.length ≤ 1000) (h2 : ∀ y ∈ b, 0 ≤ y ∧ y ≤ 255) : GoodF (fN b) := good_fX h1 h2 (by omega)
theorem good1 {f : FileL} (h : GoodF f) : Good [f] := good_of fun g hg => by rw [List.mem_singleton] at hg; rw [hg]; exact h
theorem good2 {f g : FileL} (h : GoodF f) (h2 : GoodF g) : Good [f, g] := good_of fun x hx => by
  simp only [List.mem_cons, List.not_mem_nil, or_false] at hx
  rcases hx with rfl | rfl
  · exact h
  · exact h2
theorem good3 {f g k : FileL} (h : GoodF f) (h2 : GoodF g) (h3 : GoodF k) : Good [f, g, k] := good_of fun x hx => by
  simp only [List.mem_cons, List.not_mem_nil, or_false] at hx
  rcases hx with rfl | rfl | rfl
  · exact h
  · exact h2
  · exact h3
/-- The newest of two that is not too new. -/
theorem newest_two {x y : SvS} {m : Int} (hn : n = 0 ∨ n = 1) :
    (¬ (keptS x).step ≤ m ∧ ¬ (keptS y).step ≤ m ∧ newE [fS n (kb x), fS (1 - n) (kb y)] m = (sv0, 7)) ∨
    (((keptS x).step ≤ m ∨ (keptS y).step ≤ m) ∧ (newE [fS n (kb x), fS (1 - n) (kb y)] m).2 = 0 ∧ ((newE [fS n (kb x), fS (1 - n) (kb y)] m).1 = keptS x ∨ (newE [fS n (kb x), fS (1 - n) (kb y)] m).1 = keptS y) ∧
      ((keptS x).step ≤ m → (keptS x).step ≤ (newE [fS n (kb x), fS (1 - n) (kb y)] m).1.step) ∧ ((keptS y).step ≤ m → (keptS y).step ≤ (newE [fS n (kb x), fS (1 - n) (kb y)] m).1.step) ∧ (newE [fS n (kb x), fS (1 - n) (kb y)] m).1.step ≤ m) := by
  have hm := may_2s (n := n) (kb_len x).2 (kb_len y).2 hn
  have la := load_a (r := [fS (1 - n) (kb y)]) hn hm
  have lb := load_b (b := kb x) (r := []) hn hm
  rw [newE_yes hm]
  generalize [fS n (kb x), fS (1 - n) (kb y)] = fs at *
  have e : curN fs m 2 = stepN m (stepN m (sv0, 7) (loadE fs ((0 : Nat) : Int))) (loadE fs ((1 : Nat) : Int)) := rfl
  rw [e]
  rcases hn with rfl | rfl
  · rw [show ((0 : Nat) : Int) = 0 from rfl, show ((1 : Nat) : Int) = 1 - 0 from rfl, la, lb]
    unfold stepN
    by_cases h1 : (keptS x).step ≤ m <;> by_cases h2 : (keptS y).step ≤ m <;> by_cases h3 : (keptS x).step < (keptS y).step <;> simp [h1, h2, h3] <;> omega
  · rw [show ((0 : Nat) : Int) = 1 - 1 from rfl, show ((1 : Nat) : Int) = 1 from rfl, la, lb]
    unfold stepN
    by_cases h1 : (keptS x).step ≤ m <;> by_cases h2 : (keptS y).step ≤ m <;> by_cases h3 : (keptS y).step < (keptS x).step <;> simp [h1, h2, h3] <;> omega
/-- What a crash leaves of what was written. -/
def cutK (k : Int) (d : List Int) : FileL := ⟨nxt, d.take (min k d.length).toNat, min k d.length⟩
theorem cutK_len {k : Int} (hd : d.length ≤ 1000) : (d.take (min k d.length).toNat).length ≤ 1000 := by rw [List.length_take]; omega
theorem good_cut {k : Int} (h1 : d.length ≤ 1000) (h2 : ∀ y ∈ d, 0 ≤ y ∧ y ≤ 255) (hk : 0 ≤ k) : GoodF (cutK k d) := good_fX (cutK_len h1) (fun y hy => h2 y (List.mem_of_mem_take hy)) (by omega)
theorem cut_in {k : Int} (hk : 0 ≤ k) : 0 ≤ min k (d.length : Int) ∧ min k (d.length : Int) ≤ ((d.take (min k d.length).toNat).length : Int) := by rw [List.length_take]; omega
end
end Go.Proofs.YtkgdenbabafeoaaGreatDoor

namespace Go.Proofs.YtkgdenbabafeoaaGreatDoor
open Go.Shelf
def Tryz.sortM_ren : Go.Shelf.Ren := ⟨fun | 6 => 61 | 15 => 77 | 14 => 76 | 28 => 93 | 29 => 94 | 20 => 85 | 21 => 86 | 22 => 87 | 23 => 88 | 24 => 89 | 25 => 90 | 26 => 91 | 27 => 92 | 46 => 102 | 47 => 103 | 48 => 104 | 49 => 105 | 50 => 106 | 57 => 114 | n => n, fun | 22 => 26 | 24 => 62 | 25 => 106 | 3 => 3 | 39 => 115 | 0 => 0 | 53 => 116 | 55 => 60 | 4 => 4 | 46 => 142 | 45 => 141 | 50 => 146 | 5 => 5 | 9 => 9 | 66 => 157 | 70 => 161 | 76 => 170 | 77 => 171 | n => n, fun | n => n⟩
theorem Tryz.sortM : Go.Proofs.SlLaysF0.n6 Tryz.prog Tryz.sortM_ren := {
  mixed := by kernel_rfl
  f6 := ⟨Tryz.f61.name, by decide, Tryz.func61.trans (congrArg some (by kernel_rfl))⟩
  f14 := ⟨Tryz.f76.name, by decide, Tryz.func76.trans (congrArg some (by kernel_rfl))⟩
  f15 := Tryz.func77.trans (congrArg some (by kernel_rfl))
  f20 := ⟨Tryz.f85.name, by decide, Tryz.func85.trans (congrArg some (by kernel_rfl))⟩
  f21 := ⟨Tryz.f86.name, by decide, Tryz.func86.trans (congrArg some (by kernel_rfl))⟩
  f22 := ⟨Tryz.f87.name, by decide, Tryz.func87.trans (congrArg some (by kernel_rfl))⟩
  f23 := ⟨Tryz.f88.name, by decide, Tryz.func88.trans (congrArg some (by kernel_rfl))⟩
  f24 := ⟨Tryz.f89.name, by decide, Tryz.func89.trans (congrArg some (by kernel_rfl))⟩
  f25 := ⟨Tryz.f90.name, by decide, Tryz.func90.trans (congrArg some (by kernel_rfl))⟩
  f26 := ⟨Tryz.f91.name, by decide, Tryz.func91.trans (congrArg some (by kernel_rfl))⟩
  f27 := ⟨Tryz.f92.name, by decide, Tryz.func92.trans (congrArg some (by kernel_rfl))⟩
  f28 := Tryz.func93.trans (congrArg some (by kernel_rfl))
  f29 := Tryz.func94.trans (congrArg some (by kernel_rfl))
  f46 := ⟨Tryz.f102.name, by decide, Tryz.func102.trans (congrArg some (by kernel_rfl))⟩
  f47 := Tryz.func103.trans (congrArg some (by kernel_rfl))
  f48 := Tryz.func104.trans (congrArg some (by kernel_rfl))
  f49 := ⟨Tryz.f105.name, by decide, Tryz.func105.trans (congrArg some (by kernel_rfl))⟩
  f50 := ⟨Tryz.f106.name, by decide, Tryz.func106.trans (congrArg some (by kernel_rfl))⟩
  f57 := ⟨Tryz.f114.name, by decide, Tryz.func114.trans (congrArg some (by kernel_rfl))⟩
  t0 := Tryz.underlying0
  a0 := Tryz.isAgg0
  z0 := Tryz.sizeOf0
  v0 := Tryz.zeroValue0
  t3 := Tryz.underlying3
  a3 := Tryz.isAgg3
  z3 := Tryz.sizeOf3
  v3 := Tryz.zeroValue3
  t4 := Tryz.underlying4
  a4 := Tryz.isAgg4
  z4 := Tryz.sizeOf4
  v4 := Tryz.zeroValue4
  t5 := Tryz.underlying5
  a5 := Tryz.isAgg5
  z5 := Tryz.sizeOf5
  v5 := Tryz.zeroValue5
  t9 := Tryz.underlying9
  a9 := Tryz.isAgg9
  z9 := Tryz.sizeOf9
  v9 := Tryz.zeroValue9
  t22 := Tryz.underlying26
  a22 := Tryz.isAgg26
  z22 := Tryz.sizeOf26
  v22 := Tryz.zeroValue26
  t25 := Tryz.underlying106
  a25 := Tryz.isAgg106
  z25 := Tryz.sizeOf106
  v25 := Tryz.zeroValue106
  t39 := Tryz.underlying115
  a39 := Tryz.isAgg115
  z39 := Tryz.sizeOf115
  v39 := Tryz.zeroValue115
  t45 := Tryz.underlying141
  a45 := Tryz.isAgg141
  z45 := Tryz.sizeOf141
  v45 := Tryz.zeroValue141
  t46 := Tryz.underlying142
  a46 := Tryz.isAgg142
  z46 := Tryz.sizeOf142
  v46 := Tryz.zeroValue142
  t50 := Tryz.underlying146
  a50 := Tryz.isAgg146
  z50 := Tryz.sizeOf146
  v50 := Tryz.zeroValue146
  t53 := Tryz.underlying116
  a53 := Tryz.isAgg116
  z53 := Tryz.sizeOf116
  v53 := Tryz.zeroValue116
  t55 := Tryz.underlying60
  a55 := Tryz.isAgg60
  z55 := Tryz.sizeOf60
  v55 := Tryz.zeroValue60
  t66 := Tryz.underlying157
  a66 := Tryz.isAgg157
  z66 := Tryz.sizeOf157
  v66 := Tryz.zeroValue157
  t70 := Tryz.underlying161
  a70 := Tryz.isAgg161
  z70 := Tryz.sizeOf161
  v70 := Tryz.zeroValue161
  t76 := Tryz.underlying170
  a76 := Tryz.isAgg170
  z76 := Tryz.sizeOf170
  v76 := Tryz.zeroValue170
  t77 := Tryz.underlying171
  a77 := Tryz.isAgg171
  z77 := Tryz.sizeOf171
  v77 := Tryz.zeroValue171 }
end Go.Proofs.YtkgdenbabafeoaaGreatDoor

namespace Go.Proofs.YtkgdenbabafeoaaGreatDoor
set_option maxRecDepth 100000
open Go.ChangeShapes Go.WideShapes Go.ChangeAt Go.RowKit Go.Sort

theorem ltOf_cmpM (x y : Ml) : ltOf cmpM x y = ltMb x y := cmpM_lt x y
theorem swoM : SWO (ltOf cmpM) where
  irrefl x := by rw [ltOf_cmpM, ltMb_false]; unfold ltM; omega
  trans x y z h1 h2 := by
    rw [ltOf_cmpM, ltMb_true] at *
    unfold ltM at *; omega
  ntrans x y z h1 h2 := by
    rw [ltOf_cmpM, ltMb_false] at *
    unfold ltM at *; omega
theorem totM (x y : Ml) (h1 : ltOf cmpM x y = false) (h2 : ltOf cmpM y x = false) : x = y := by
  rw [ltOf_cmpM, ltMb_false] at h1 h2
  unfold ltM at h1 h2
  have e1 : x.1 = y.1 := by omega
  have e2 : x.2 = y.2 := by omega
  exact Prod.ext e1 e2
theorem sortM_of (es : List Ml) : (es.mergeSort fun x y => !ltOf cmpM y x) = sortM es := by
  unfold sortM
  congr 1
  funext x y
  rw [ltOf_cmpM]
  rfl
/-- A world behind W: blocks are laid, nothing is turned; the boxes of the two pieces of mail. -/
def CmpG (W V : World) (a0 a1 b0 b1 : Int) : Prop :=
  V.cell? ⟨W.heap.size, 0, none⟩ = some (.int .i64 a0) ∧ V.cell? ⟨W.heap.size + 1, 0, none⟩ = some (.int .i64 b0) ∧ V.cell? ⟨W.heap.size, 1, none⟩ = some (.int .i64 a1) ∧ V.cell? ⟨W.heap.size + 1, 1, none⟩ = some (.int .i64 b1) ∧ ∃ q os', V = grow (W.drewN q) os'
theorem cmpG_start (W : World) (a0 a1 b0 b1 : Int) : CmpG W ((W.alloc (.cells #[.int .i64 a0, .int .i64 a1] 62)).alloc (.cells #[.int .i64 b0, .int .i64 b1] 62)).drew a0 a1 b0 b1 := by
  refine ⟨by simp, by simp, by simp, by simp, 1, #[.cells #[.int .i64 a0, .int .i64 a1] 62, .cells #[.int .i64 b0, .int .i64 b1] 62], ?_⟩
  rw [alloc_eq_grow, alloc_eq_grow, grow_grow]; rfl
theorem cmpG_alloc {W V : World} {a0 a1 b0 b1 : Int} (h : CmpG W V a0 a1 b0 b1) (o : Obj) : CmpG W (V.alloc o) a0 a1 b0 b1 := by
  obtain ⟨h1, h2, h3, h4, q, os, h7⟩ := h
  have c : ∀ {p : Addr} {v : Value}, V.cell? p = some v → (V.alloc o).cell? p = some v := fun {p v} hp => ((below_alloc V o).cell (p := p) (World.block_lt_of_cell? V p hp)).trans hp
  exact ⟨c h1, c h2, c h3, c h4, q, os ++ #[o], by rw [alloc_eq_grow, h7, grow_grow]⟩

set_option maxHeartbeats 2000000 in
set_option maxRecDepth 100000 in
/-- merge's compare: in whatever world; blocks are laid, nothing is turned. -/
theorem mailCmp_grow (x y : Ml) (W : World) : Calls Tryz.prog 62 #[.agg #[.int .i64 x.1, .int .i64 x.2], .agg #[.int .i64 y.1, .int .i64 y.2]] W fun e w' => e = .returned (.int .i64 (cmpM x y)) ∧ ∃ q os', w' = grow (W.drewN q) os' := by
  unfold cmpM
  obtain ⟨a0, a1⟩ := x
  obtain ⟨b0, b1⟩ := y
  simp only
  have HS0 : Hid (CmpG W _ a0 a1 b0 b1) := cmpG_start W a0 a1 b0 b1
  generalize hor : or2 (cmpI a0 b0) (cmpI a1 b1) = rr
  have c3 : Hid (∀ (q : Nat) (V : World), V.heap[q]? = some (.cells #[.int .i64 (cmpI a0 b0), .int .i64 (cmpI a1 b1)] 3 (0, 0)) → Calls Tryz.prog 78 #[.slice (some ⟨q, 0, none⟩) 2 2] V fun e w' => e = .returned (.int .i64 rr) ∧ w' = V) := fun q V h => by rw [← hor]; exact cmpOr2_any _ _ q V (by rw [cell_of_row _ _ _ _ _ _ h]; rfl) (by rw [cell_of_row _ _ _ _ _ _ h]; rfl)
  clear hor
  go_enter Tryz.func62, Tryz.ntmps62
  go_wp2_with fail
  go_region_held3 (fun V => V.cell? ⟨W.heap.size, 0, none⟩ = some (.int .i64 a0) ∧ V.cell? ⟨W.heap.size + 1, 0, none⟩ = some (.int .i64 b0) ∧ V.cell? ⟨W.heap.size, 1, none⟩ = some (.int .i64 a1) ∧ V.cell? ⟨W.heap.size + 1, 1, none⟩ = some (.int .i64 b1) ∧ ∃ q os', V = grow (W.drewN q) os') (first | exact HS0.out | assumption | exact cmpG_alloc (by assumption) _) (first | (go_at_call 79; refine (cmpInt_any _ _ _).mono ?_; rintro e w1 ⟨rfl, rfl⟩) | (go_at_call 78; refine (c3.out _ _ (heap_third' _ _ _ _ _)).mono ?_; rintro e w1 ⟨rfl, rfl⟩))
  all_goals (rename_i hh; clear hh)
  go_wp2_with fail
  go_ret
  exact ⟨rfl, 1, _, by rw [alloc_eq_grow, alloc_eq_grow, alloc_eq_grow, grow_grow, grow_grow]; rfl⟩
theorem cmpLaysM (blk off size : Nat) (w : World) : CmpLays Tryz.prog 62 #[] encM 2 cmpM blk off size w := fun _ _ _ _ x y => mailCmp_grow x y _

theorem flatM_get (d : List Ml) (t : Nat) (h : t < d.length * 2) : (d.flatMap encM)[t]? = some (flatK encM 2 d.toArray)[t]! := by
  have h1 : t / 2 < d.length := by omega
  have h2 : t % 2 < 2 := by omega
  have hx : d[t / 2]? = some d[t / 2] := List.getElem?_eq_getElem h1
  have hm2 : t % 2 < (encM d[t / 2]).length := h2
  have hu : (encM d[t / 2])[t % 2]? = some (encM d[t / 2])[t % 2] := List.getElem?_eq_getElem hm2
  have := flat_at encM_len hx hu
  rw [show t / 2 * 2 + t % 2 = t by omega] at this
  rw [this, get_flatK _ _ _ _ (by simpa using h)]
  congr 1
  have e1 : d.toArray[t / 2]! = d[t / 2] := by rw [getElem!_pos _ _ (by simpa using h1)]; simp
  rw [e1]
  exact (getElem!_pos (encM d[t / 2]) (t % 2) hm2).symm

/-- An owned row of edges, in the sort's words. -/
theorem holdsM_own {w : World} {base g n cap : Nat} {d : List Ml} (h : w.ownsRow base 62 2 (.slice (some ⟨g, 0, none⟩) n cap) d.length (d.flatMap encM)) : HoldsK encM 2 w g 0 d.toArray := by
  intro j hj
  rw [size_flatK] at hj
  have hj' : j < d.length * 2 := by simpa using hj
  rcases own_shapeK h with ⟨hv, _⟩ | ⟨g', cap', hv, _, _, _, _, hc⟩
  · cases hv
  · injection hv with h1 h2 h3
    injection h1 with h1
    injection h1 with h1
    subst h1 h2 h3
    refine ⟨?_, frozenK h _⟩
    have := hc j _ (flatM_get d j hj')
    rw [Nat.zero_add]; exact this
/-- .. and back, behind the sort. -/
theorem ownM_sorted {w : World} {base g n cap m : Nat} {d d' : List Ml} {os : Array Obj} (h : w.ownsRow base 62 2 (.slice (some ⟨g, 0, none⟩) n cap) d.length (d.flatMap encM)) (hl : d'.length = d.length) :
    (sortWorldK encM 2 w g 0 m d'.toArray os).ownsRow base 62 2 (.slice (some ⟨g, 0, none⟩) n cap) d'.length (d'.flatMap encM) ∧ Below base w (sortWorldK encM 2 w g 0 m d'.toArray os) := by
  rcases h.2 with ⟨hv, _⟩ | ⟨g', cap', cur, hv, hg, hgg, hc, hm, hcur, htk⟩
  · cases hv
  · injection hv with h1 h2 h3
    injection h1 with h1
    injection h1 with h1
    subst h1 h2 h3
    have lt : g < w.heap.size := (Array.getElem?_eq_some_iff.1 hgg).1
    have hblk : (sortWorldK encM 2 w g 0 m d'.toArray os).heap[g]? = some (.cells (putCells id 0 (flatK encM 2 d'.toArray) cur) 62 (0, 0)) := by
      simp only [sortWorldK, grow, putRowK, putRow, mapBlock, Sort.ahead]
      rw [Array.getElem?_append_left (by simpa using lt), Array.getElem?_modify, if_pos rfl, hgg]
      rfl
    refine ⟨⟨flat_len encM_len d', .inr ⟨g, cap, _, by rw [hl], hg, hblk, by rw [hl]; exact hc, hm, by simp [putCells, hcur], ?_⟩⟩, ?_⟩
    · refine List.ext_getElem? fun t => ?_
      rcases Nat.lt_or_ge t (d'.length * 2) with ht | ht
      · rw [List.getElem?_take_of_lt ht, flatM_get d' t ht, Array.getElem?_toList]
        simp only [putCells, Array.getElem?_mapIdx]
        have hc2 : t < cur.size := by rw [hcur]; rw [hl] at ht; omega
        rw [Array.getElem?_eq_getElem hc2, Option.map_some, if_pos ⟨by omega, by rw [size_flatK]; simpa using ht⟩]
        rfl
      · rw [List.getElem?_eq_none (by rw [List.length_take]; omega), List.getElem?_eq_none (by rw [flat_len encM_len d']; omega)]
    · refine ⟨rfl, rfl, rfl, ?_, fun k hk => ?_⟩
      · simp [sortWorldK, grow, putRowK, putRow, mapBlock, Sort.ahead]
      · have hk2 : k < w.heap.size := by omega
        simp only [sortWorldK, grow, putRowK, putRow, mapBlock, Sort.ahead]
        rw [Array.getElem?_append_left (by simpa using hk2), Array.getElem?_modify, if_neg (by omega)]

/-- slices.SortFunc with compare. -/
theorem sortM_any (base : Nat) (v : Value) (es : List Ml) (w : World) (h : w.ownsRow base 62 2 v es.length (es.flatMap encM)) (hl : es.length < 4611686018427387904) :
    Calls Tryz.prog 61 #[v, .func (.func 62) #[] #[]] w fun e w' => e = .returned (.tuple #[]) ∧ w'.ownsRow base 62 2 v (sortM es).length ((sortM es).flatMap encM) ∧ Below base w w' := by
  rcases own_shapeK h with ⟨rfl, h0, _⟩ | ⟨g, cap, rfl, hg, lt, hc, hm, _⟩
  · have : es = [] := List.eq_nil_of_length_eq_zero h0
    subst this
    have hcon := AnyF.slices_SortFunc_none Tryz.sortM none 0 (.func (.func 62) #[] #[]) w
    change Calls Tryz.prog 61 _ _ _ at hcon
    refine hcon.mono ?_
    rintro e w' ⟨rfl, rfl⟩
    exact ⟨rfl, by simpa [sortM] using h, Below.refl _ _⟩
  · have eg : ∀ args w, (callFunc 62 args).run Tryz.prog w = .ok (.enter 62 args) w := Go.Proofs.enters_of Tryz.func62 (by kernel_rfl) rfl
    have hcon := AnyQ.slices_SortFunc_total Tryz.sortM 2 Tryz.isAgg62 Tryz.sizeOf62 encM encM_len (fun x u hu => encM_one x u hu) cmpM swoM 62 #[] g 0 cap es.toArray w eg (cmpLaysM _ _ _ _) (holdsM_own h) lt (by simpa using hl) totM
    change Calls Tryz.prog 61 _ _ _ at hcon
    rw [show es.toArray.size = es.length by simp] at hcon
    rw [sortM_of] at hcon
    refine hcon.mono ?_
    rintro e w' ⟨rfl, m, os, rfl⟩
    have := ownM_sorted (m := m) (os := os) h (sortM_len es)
    exact ⟨rfl, this.1, this.2⟩

/-- What merge.Sort answers, and the document's. -/
def SrtP (w : World) (es : List Ml) (e : Ending) (w' : World) : Prop := ∃ v', e = .returned (.tuple #[v', .int .i64 (errS es.length)]) ∧ w'.ownsRow w.heap.size 62 2 v' (okL (errS es.length) (sortM es)).length ((okL (errS es.length) (sortM es)).flatMap encM) ∧ Below w.heap.size w w'
set_option maxHeartbeats 1000000 in
theorem mergeSort_any (v : Value) (es : List Ml) (w : World) (h : MlR w v es) : Calls Tryz.prog 36 #[v] w (SrtP w es) := by
  have HR : Hid (MlR w v es) := h
  obtain ⟨a, cap, rfl, hc, hm, _, _⟩ := h
  unfold maxLen at hm
  by_cases hn : es.length > 5000
  · have e1 : errS es.length = 1 := if_pos hn
    have HE : Hid (SrtP w es (.returned (.tuple #[.slice none 0 0, .int .i64 1])) w) := by
      unfold SrtP
      rw [e1]
      exact ⟨_, rfl, by rw [okL_no (by decide)]; exact World.ownsRow_nil _ _ _ _, Below.refl _ _⟩
    clear e1
    go_enter Tryz.func36, Tryz.ntmps36
    go_wp2_with fail
    go_ret2
    exact HE.out
  · have e1 : errS es.length = 0 := if_neg hn
    have HE : Hid (∀ v' w', w'.ownsRow w.heap.size 62 2 v' (sortM es).length ((sortM es).flatMap encM) → Below w.heap.size w w' → SrtP w es (.returned (.tuple #[v', .int .i64 0])) w') := by
      intro v' w' h1 h2
      unfold SrtP
      rw [e1, okL_yes]
      exact ⟨_, rfl, h1, h2⟩
    clear e1
    generalize SrtP w es = P at *
    go_enter Tryz.func36, Tryz.ntmps36
    go_wp2_with (at_builtin; refine wpList_append_rowK kM rfl _ _ rfl w.heap.size _ ([] : List Ml) rfl (World.ownsRow_nil _ _ _ _) _ es rfl HR.out ?d1 ?d2 (Nat.le_refl _) ?_)
    case d1 => simp [kM]; omega
    case d2 => simp [maxLen]; omega
    intro v' w' hown hb _
    have OW : Hid (w'.ownsRow w.heap.size 62 2 v' es.length (es.flatMap encM)) := by
      show World.ownsRow _ _ _ _ _ _ _
      simpa [kM] using hown
    have HB : Hid (Below w.heap.size w w') := hb
    obtain ⟨va, vn, vc, rfl⟩ : ∃ a n c, v' = .slice a n c := by obtain ⟨a, c, e, _⟩ := MlR.ownd OW.out; exact ⟨_, _, _, e⟩
    clear hown hb
    go_wp2_with fail
    refine (sortM_any _ _ es _ OW.out (by omega)).mono ?_
    rintro e w2 ⟨rfl, hown2, hb2⟩
    have HX : Hid (P (.returned (.tuple #[.slice va vn vc, .int .i64 0])) w2) := HE.out _ _ hown2 (HB.out.trans hb2)
    clear hown2 hb2
    go_wp2_with fail
    exact HX.out
theorem mergeSort_ref (v : Value) (es : List Ml) (w : World) (h : MlR w v es) : Calls Tryz.prog 36 #[v] w (RefP w (errS es.length) (sortM es)) := mergeSort_any v es w h
end Go.Proofs.YtkgdenbabafeoaaGreatDoor

namespace Go.Proofs.YtkgdenbabafeoaaGreatDoor
set_option maxRecDepth 100000
open Go.ChangeShapes Go.WideShapes Go.ChangeAt Go.RowKit

set_option maxHeartbeats 1000000 in
theorem sortedK_any (v : Value) (es : List Ml) (w : World) (h : MlR w v es) (hl : es.length ≤ 5000) :
    Calls Tryz.prog 17 #[v] w fun e w' => ∃ a c, e = .returned (.tuple #[.slice a (sortM es).length c, .bool true]) ∧ w'.ownsRow w.heap.size 62 2 (.slice a (sortM es).length c) (sortM es).length ((sortM es).flatMap encM) ∧ Below w.heap.size w w' := by
  have HR : Hid (MlR w v es) := h
  have HC : Hid (∀ X, MlR X v es → Calls Tryz.prog 36 #[v] X (RefP X 0 (sortM es))) := fun X hX => by
    have := mergeSort_ref v es X hX
    rwa [show errS es.length = 0 from if_neg (by omega)] at this
  obtain ⟨a, cap, rfl⟩ := h.shape
  clear h
  generalize sortM es = L at *
  go_enter Tryz.func17, Tryz.ntmps17
  go_wp2_with fail
  refine (HC.out _ HR.out).mono ?_
  rintro e w1 h1
  obtain ⟨va, vn, vc, rfl, hr, ho, hb⟩ := h1.reads
  obtain rfl : L.length = vn := by
    obtain ⟨_, _, e, _⟩ := hr
    rw [okL_yes] at e
    injection e with _ e _
    exact e.symm
  have OW : Hid (w1.ownsRow w.heap.size 62 2 (.slice va L.length vc) L.length (L.flatMap encM)) := by
    show World.ownsRow _ _ _ _ _ _ _
    rw [okL_yes] at ho; exact ho
  have HB : Hid (Below w.heap.size w w1) := hb
  clear h1 hr ho hb
  go_wp2_with fail
  go_ret2
  exact ⟨_, _, rfl, OW.out, HB.out⟩
end Go.Proofs.YtkgdenbabafeoaaGreatDoor

namespace Go.Proofs.YtkgdenbabafeoaaGreatDoor
set_option maxRecDepth 100000
open Go.ChangeShapes Go.WideShapes Go.ChangeAt Go.RowKit

/-- How great the parts of what is saved may be. -/
def SavB (s : SvS) : Prop := ((∀ x ∈ s.vals, mlB x) ∧ s.vals.length * 16 ≤ 140737488351232) ∧ (∀ x ∈ s.mail, mlB x) ∧ s.mail.length * 16 ≤ 140737488351232
set_option maxHeartbeats 400000 in
theorem open_saved {H : Type} {enc : TypeId × Value → H} {W : World} {v0 : Value} {d0 : DataW H} {p0 : List MemPlace} (hv : ∃ cs, v0 = .agg cs ∧ cs.size = Tryz.prog.cellsOf 28) (h0 : DataW.Trod enc Tryz.prog W 0 (fun _ => true) true 28 v0 d0 p0)
    (hs : ∀ m ∈ d0.weights Tryz.prog 28, m ≤ reachBytes) : ∃ (s : SvS) (vv vm : Value), v0 = .agg #[.int .i64 s.step, .int .i64 s.phase, .bool s.fresh, vv, vm] ∧ (i64B s.step ∧ i64B s.phase) ∧ MlR W vv s.vals ∧ MlR W vm s.mail ∧ SavB s := by
  obtain ⟨cs, rfl, hcs⟩ := hv
  have hc1 : Tryz.prog.cellsOf 28 = 5 := by kernel_rfl
  have hc3 : Tryz.prog.cellsOf 3 = 1 := by kernel_rfl
  have hc4 : Tryz.prog.cellsOf 4 = 1 := by kernel_rfl
  have hc5 : Tryz.prog.cellsOf 25 = 1 := by kernel_rfl
  have hc6 : Tryz.prog.cellsOf 26 = 1 := by kernel_rfl
  rw [hc1] at hcs
  obtain ⟨c0, c1, c2, c3, c4, rfl⟩ : ∃ c0 c1 c2 c3 c4, cs = #[c0, c1, c2, c3, c4] := by
    obtain ⟨l⟩ := cs
    match l, hcs with
    | [c0, c1, c2, c3, c4], _ => exact ⟨c0, c1, c2, c3, c4, rfl⟩
  obtain ⟨fuel, hf⟩ := h0
  obtain ⟨xs, n, _, hx, _, hxl, hfld⟩ := DataW.trod_struct Tryz.underlying28 hf
  have h0 := hfld 0 _ rfl
  have h1 := hfld 1 _ rfl
  have h2 := hfld 2 _ rfl
  have h3 := hfld 3 _ rfl
  have h4 := hfld 4 _ rfl
  match xs, hxl with
  | [y0, y1, y2, y3, y4], _ =>
    have e0 : ((Value.agg #[c0, c1, c2, c3, c4]).cells.toList.drop 0).take (Tryz.prog.cellsOf 3) = [c0] := by rw [hc3]; rfl
    have e1 : ((Value.agg #[c0, c1, c2, c3, c4]).cells.toList.drop 1).take (Tryz.prog.cellsOf 3) = [c1] := by rw [hc3]; rfl
    have e2 : ((Value.agg #[c0, c1, c2, c3, c4]).cells.toList.drop 2).take (Tryz.prog.cellsOf 4) = [c2] := by rw [hc4]; rfl
    have e3 : ((Value.agg #[c0, c1, c2, c3, c4]).cells.toList.drop 3).take (Tryz.prog.cellsOf 25) = [c3] := by rw [hc5]; rfl
    have e4 : ((Value.agg #[c0, c1, c2, c3, c4]).cells.toList.drop 4).take (Tryz.prog.cellsOf 26) = [c4] := by rw [hc6]; rfl
    simp only [List.getElem?_cons_zero, List.getElem?_cons_succ] at h0 h1 h2 h3 h4
    have h0' : DataW.trod enc Tryz.prog W 0 (fun _ => true) true n 3 [c0] = some y0 := by rw [← e0]; exact h0
    have h1' : DataW.trod enc Tryz.prog W 0 (fun _ => true) true n 3 [c1] = some y1 := by rw [← e1]; exact h1
    have h2' : DataW.trod enc Tryz.prog W 0 (fun _ => true) true n 4 [c2] = some y2 := by rw [← e2]; exact h2
    have h3' : DataW.trod enc Tryz.prog W 0 (fun _ => true) true n 25 [c3] = some y3 := by rw [← e3]; exact h3
    have h4' : DataW.trod enc Tryz.prog W 0 (fun _ => true) true n 26 [c4] = some y4 := by rw [← e4]; exact h4
    obtain ⟨i0, ei0, _, hi0⟩ := DataW.trod_int Tryz.underlying3 h0'
    obtain ⟨i1, ei1, _, hi1⟩ := DataW.trod_int Tryz.underlying3 h1'
    obtain ⟨b2, eb2, _⟩ := DataW.trod_bool Tryz.underlying4 h2'
    simp only [List.cons.injEq, and_true] at ei0 ei1 eb2
    subst ei0 ei1 eb2
    simp only [Prod.mk.injEq] at hx
    obtain ⟨rfl, _⟩ := hx
    have hs4 : ∀ m ∈ y3.1.weights Tryz.prog 25, m ≤ reachBytes := fun m hm => hs m (by
      simp only [DataW.weights, Tryz.underlying28, List.map_cons, List.map_nil, DataW.weightsEach, List.mem_append]
      simp [hm])
    have hs5 : ∀ m ∈ y4.1.weights Tryz.prog 26, m ≤ reachBytes := fun m hm => hs m (by
      simp only [DataW.weights, Tryz.underlying28, List.map_cons, List.map_nil, DataW.weightsEach, List.mem_append]
      simp [hm])
    obtain ⟨vs, hR, hB, hL⟩ := open_twos Tryz.underlying25 Tryz.underlying53 (by kernel_rfl) rfl rfl rfl rfl (by kernel_rfl) h3' hs4
    obtain ⟨ms, kR, kB, kL⟩ := open_twos Tryz.underlying26 Tryz.underlying62 (by kernel_rfl) rfl rfl rfl rfl (by kernel_rfl) h4' hs5
    exact ⟨⟨i0, i1, b2, vs, ms⟩, c3, c4, rfl, ⟨bounds_i64 hi0, bounds_i64 hi1⟩, hR, kR, ⟨hB, hL⟩, kB, kL⟩
end Go.Proofs.YtkgdenbabafeoaaGreatDoor

namespace Go.Proofs.YtkgdenbabafeoaaGreatDoor
set_option maxRecDepth 100000
open Go.ChangeShapes Go.WideShapes Go.ChangeAt Go.RowKit

/-- What kept answers. -/
def SvkP (w : World) (s : SvS) (e : Ending) (w' : World) : Prop :=
  ∃ v1 v2, e = .returned (.agg #[.int .i64 s.step, .int .i64 s.phase, .bool s.fresh, v1, v2]) ∧ w'.ownsRow w.heap.size 53 2 v1 s.vals.length (s.vals.flatMap encM) ∧ w'.ownsRow w.heap.size 62 2 v2 s.mail.length (s.mail.flatMap encM) ∧ Below w.heap.size w w'
set_option maxHeartbeats 8000000 in
set_option maxRecDepth 100000 in
theorem kept_any (x : SvS) (vv vm : Value) (w : World) (hV : MlR w vv x.vals) (hM : MlR w vm x.mail) (hN : i64B x.step ∧ i64B x.phase) (hB : SavB x) :
    Calls Tryz.prog 6 #[.agg #[.int .i64 x.step, .int .i64 x.phase, .bool x.fresh, vv, vm]] w (SvkP w (keptS x)) := by
  have HV : Hid (MlR w vv x.vals) := hV
  have HM : Hid (MlR w vm x.mail) := hM
  obtain ⟨a, ca, rfl, hcc, hcm, _, _⟩ := hV
  obtain ⟨b, cb, rfl⟩ := hM.shape
  unfold maxLen at hcm
  clear hM
  have HPB : Hid (∀ y ∈ x.vals, mlB y) := hB.1.1
  have CP : Hid (∀ X v, MlR X v x.mail → Calls Tryz.prog 18 #[v, .int .i64 20] X fun e w' => ∃ v', e = .returned v' ∧ w'.ownsRow X.heap.size 62 2 v' (postN 20 x.mail).length ((postN 20 x.mail).flatMap encM) ∧ Below X.heap.size X w') := fun X v h => posts_upto 20 (by decide) v x.mail X h hB.2.1
  have CS : Hid (∀ X v, MlR X v (postN 20 x.mail) → Calls Tryz.prog 17 #[v] X fun e w' => ∃ a c, e = .returned (.tuple #[.slice a (sortM (postN 20 x.mail)).length c, .bool true]) ∧ w'.ownsRow X.heap.size 62 2 (.slice a (sortM (postN 20 x.mail)).length c) (sortM (postN 20 x.mail)).length ((sortM (postN 20 x.mail)).flatMap encM) ∧ Below X.heap.size X w') := fun X v h => sortedK_any v _ X h (by have := postN_len 20 x.mail; omega)
  have C1 : Hid (∀ X, Calls Tryz.prog 7 #[.int .i64 x.step, .int .i64 100001] X fun e w' => e = .returned (.int .i64 (pickF x.step 100001)) ∧ w' = X) := fun X => picked_any _ _ X hN.1.1 hN.1.2 (by decide) (by decide)
  have C2 : Hid (∀ X, Calls Tryz.prog 7 #[.int .i64 x.phase, .int .i64 2] X fun e w' => e = .returned (.int .i64 (pickF x.phase 2)) ∧ w' = X) := fun X => picked_any _ _ X hN.2.1 hN.2.2 (by decide) (by decide)
  have HEND : Hid (∀ v1 v2 w', w'.ownsRow w.heap.size 53 2 v1 ((x.vals.take 10).map keptV).length (((x.vals.take 10).map keptV).flatMap encM) → w'.ownsRow w.heap.size 62 2 v2 (sortM (postN 20 x.mail)).length ((sortM (postN 20 x.mail)).flatMap encM) → Below w.heap.size w w' → SvkP w (keptS x) (.returned (.agg #[.int .i64 (pickF x.step 100001), .int .i64 (pickF x.phase 2), .bool x.fresh, v1, v2])) w') := fun v1 v2 w' h1 h2 h3 => ⟨v1, v2, rfl, h1, h2, h3⟩
  clear hN hB
  generalize SvkP w (keptS x) = PP at *
  generalize sortM (postN 20 x.mail) = sm at *
  generalize postN 20 x.mail = pm at *
  generalize pickF x.step 100001 = p1 at *
  generalize pickF x.phase 2 = p2 at *
  obtain ⟨W0, hW0⟩ : ∃ W0, W0 = (w.alloc (.cells #[.int .i64 x.step, .int .i64 x.phase, .bool x.fresh, .slice a x.vals.length ca, .slice b x.mail.length cb] 24)).alloc (.cells #[.int .i64 0, .int .i64 0, .bool false, .slice none 0 0, .slice none 0 0] 28) := ⟨_, rfl⟩
  obtain ⟨Q0, T0, B0, s1, s2⟩ := boxes2 w #[.int .i64 x.step, .int .i64 x.phase, .bool x.fresh, .slice a x.vals.length ca, .slice b x.mail.length cb] #[.int .i64 0, .int .i64 0, .bool false, .slice none 0 0, .slice none 0 0] 24 28 W0 hW0
  have hs0 : W0.heap.size = w.heap.size + 2 := by omega
  have HB0 : Hid (Below w.heap.size w W0) := B0
  have HQ : Hid (∀ X, Below W0.heap.size W0 X → BX 24 X w.heap.size #[.int .i64 x.step, .int .i64 x.phase, .bool x.fresh, .slice a x.vals.length ca, .slice b x.mail.length cb] ∧ BX 28 X (w.heap.size + 1) #[.int .i64 0, .int .i64 0, .bool false, .slice none 0 0, .slice none 0 0] ∧ Below w.heap.size w X ∧ MlR X (.slice a x.vals.length ca) x.vals ∧ MlR X (.slice b x.mail.length cb) x.mail) := fun X hX => by
    have hb := B0.trans (hX.mono (show w.heap.size ≤ W0.heap.size by omega))
    exact ⟨Q0.below hX (by omega), T0.below hX (by omega), hb, HV.out.below hb (Nat.le_refl _), HM.out.below hb (Nat.le_refl _)⟩
  clear Q0 T0 B0 s1 s2
  go_enter Tryz.func6, Tryz.ntmps6
  go_upto_region 1 with fail
  rw [← hW0]
  clear hW0
  have epk : ∀ args w, (callFunc 7 args).run Tryz.prog w = .ok (.enter 7 args) w := enters_of Tryz.func7 (by kernel_rfl) rfl
  have BD : Hid (Below W0.heap.size W0 W0.drew) := (Below.refl _ _).drew
  have BA : Hid (Below W0.heap.size W0 (W0.drew.alloc (.cells #[.int .i64 0, .int .i64 0, .bool false, .slice none 0 0, .slice none 0 0] 28))) := BD.out.alloc BD.out.size _
  have KS : Hid (∀ V, Below W0.heap.size W0 V → V.cell? ⟨w.heap.size, 0, none⟩ = some (.int .i64 x.step) ∧ V.cell? ⟨w.heap.size, 1, none⟩ = some (.int .i64 x.phase) ∧ V.cell? ⟨w.heap.size, 2, none⟩ = some (.bool x.fresh)) := fun V hVV => ⟨(HQ.out V hVV).1.cell 0, (HQ.out V hVV).1.cell 1, (HQ.out V hVV).1.cell 2⟩
  have NX : Hid (BX 28 (W0.drew.alloc (.cells #[.int .i64 0, .int .i64 0, .bool false, .slice none 0 0, .slice none 0 0] 28)) W0.heap.size #[.int .i64 0, .int .i64 0, .bool false, .slice none 0 0, .slice none 0 0]) := BX.new _ _ _
  have NW : Hid (Below W0.heap.size W0 (W0.alloc (.cells #[.int .i64 p1, .int .i64 p2, .bool x.fresh, .slice none 0 0, .slice none 0 0] 28)).drew ∧ BX 28 (W0.alloc (.cells #[.int .i64 p1, .int .i64 p2, .bool x.fresh, .slice none 0 0, .slice none 0 0] 28)).drew (w.heap.size + 2) #[.int .i64 p1, .int .i64 p2, .bool x.fresh, .slice none 0 0, .slice none 0 0]) := ⟨(below_alloc _ _).drew, by rw [← hs0]; exact BX.new _ _ _⟩
  apply Hid.cut
  case h =>
    intro HG
    refine region_lastF (S := fun V => V.cell? ⟨w.heap.size, 0, none⟩ = some (.int .i64 x.step) ∧ V.cell? ⟨w.heap.size, 1, none⟩ = some (.int .i64 x.phase) ∧ V.cell? ⟨w.heap.size, 2, none⟩ = some (.bool x.fresh)) (by kernel_rfl) (by kernel_rfl) (by kernel_rfl) (by kernel_rfl) ?_
    simp only [List.pop_toArray, List.dropLast_cons_cons, List.dropLast_singleton, List.size_toArray, List.length_cons, List.length_nil, Nat.reduceAdd]
    refine takeH (i := 0) (v := .pointer (some ⟨w.heap.size, 0, none⟩)) (d := 7) rfl rfl (by kernel_rfl) (by kernel_rfl) (by kernel_rfl) (fun _ _ _ h => h) (by rfl) (fun V hV => by obtain ⟨v1, v2, v3⟩ := hV; go_simp) (KS.out _ BD.out) ?_
    simp only [Act.put, List.setIfInBounds_toArray, List.set_cons_zero, List.set_cons_succ]
    refine takeH (i := 1) (v := .int .i64 x.step) (d := 8) rfl rfl (by kernel_rfl) (by kernel_rfl) (by kernel_rfl) (fun _ _ _ h => h) (by rfl) (fun V hV => by obtain ⟨v1, v2, v3⟩ := hV; go_simp) (KS.out _ BD.out) ?_
    simp only [Act.put, List.setIfInBounds_toArray, List.set_cons_zero, List.set_cons_succ]
    refine takeH (i := 3) (v := .pointer (some ⟨w.heap.size, 1, none⟩)) (d := 10) rfl rfl (by kernel_rfl) (by kernel_rfl) (by kernel_rfl) (fun _ _ _ h => h) (by rfl) (fun V hV => by obtain ⟨v1, v2, v3⟩ := hV; go_simp) (KS.out _ BD.out) ?_
    simp only [Act.put, List.setIfInBounds_toArray, List.set_cons_zero, List.set_cons_succ]
    refine takeH (i := 4) (v := .int .i64 x.phase) (d := 11) rfl rfl (by kernel_rfl) (by kernel_rfl) (by kernel_rfl) (fun _ _ _ h => h) (by rfl) (fun V hV => by obtain ⟨v1, v2, v3⟩ := hV; go_simp) (KS.out _ BD.out) ?_
    simp only [Act.put, List.setIfInBounds_toArray, List.set_cons_zero, List.set_cons_succ]
    refine takeH (i := 6) (v := .pointer (some ⟨w.heap.size, 2, none⟩)) (d := 13) rfl rfl (by kernel_rfl) (by kernel_rfl) (by kernel_rfl) (fun _ _ _ h => h) (by rfl) (fun V hV => by obtain ⟨v1, v2, v3⟩ := hV; go_simp) (KS.out _ BD.out) ?_
    simp only [Act.put, List.setIfInBounds_toArray, List.set_cons_zero, List.set_cons_succ]
    refine takeH (i := 7) (v := .bool x.fresh) (d := 14) rfl rfl (by kernel_rfl) (by kernel_rfl) (by kernel_rfl) (fun _ _ _ h => h) (by rfl) (fun V hV => by obtain ⟨v1, v2, v3⟩ := hV; go_simp) (KS.out _ BD.out) ?_
    simp only [Act.put, List.setIfInBounds_toArray, List.set_cons_zero, List.set_cons_succ]
    refine twoH (i := 2) (j := 9) rfl rfl (by kernel_rfl) rfl rfl ?w1 ?w2
    case w1 =>
      refine call_same (d := 9) (f := 7) (xs := #[.tmp 8, .const (.int .i64 100001)]) (ats := #[3, 3]) rfl rfl epk (vs := #[.int .i64 x.step, .int .i64 100001]) (by simp [Act.eval]) (C1.out _) ⟨(KS.out _ BD.out), ?_⟩
      simp only [Act.put, List.setIfInBounds_toArray, List.set_cons_zero, List.set_cons_succ]
      refine twoH (i := 5) (j := 9) rfl rfl (by kernel_rfl) rfl rfl ?w3 ?w4
      case w3 =>
        refine call_same (d := 12) (f := 7) (xs := #[.tmp 11, .const (.int .i64 2)]) (ats := #[3, 3]) rfl rfl epk (vs := #[.int .i64 x.phase, .int .i64 2]) (by simp [Act.eval]) (C2.out _) ⟨(KS.out _ BD.out), ?_⟩
        simp only [Act.put, List.setIfInBounds_toArray, List.set_cons_zero, List.set_cons_succ]
        refine takeH (i := 8) (v := .agg #[.int .i64 p1, .int .i64 p2, .bool x.fresh, .slice none 0 0, .slice none 0 0]) (d := 15) rfl rfl (by kernel_rfl) (by kernel_rfl) (by kernel_rfl) (fun _ _ _ h => h) (by rfl) (fun V hV => by obtain ⟨v1, v2, v3⟩ := hV; go_simp) (KS.out _ BD.out) ?_
        simp only [Act.put, List.setIfInBounds_toArray, List.set_cons_zero, List.set_cons_succ]
        refine oneH (i := 9) rfl (by kernel_rfl) rfl (op_run (d := 3) (v' := .pointer (some ⟨W0.heap.size, 0, none⟩)) (w' := W0.drew.alloc (.cells #[.int .i64 0, .int .i64 0, .bool false, .slice none 0 0, .slice none 0 0] 28)) rfl (by go_simp) ⟨(KS.out _ BA.out), ?_⟩)
        simp only [Act.put, List.setIfInBounds_toArray, List.set_cons_zero, List.set_cons_succ]
        refine wpAnyH_done (by kernel_rfl) ?_ _
        exact HG.out
      case w4 =>
        refine op_run (d := 3) (v' := .pointer (some ⟨W0.heap.size, 0, none⟩)) (w' := W0.drew.alloc (.cells #[.int .i64 0, .int .i64 0, .bool false, .slice none 0 0, .slice none 0 0] 28)) rfl (by go_simp) ⟨(KS.out _ BA.out), ?_⟩
        simp only [Act.put, List.setIfInBounds_toArray, List.set_cons_zero, List.set_cons_succ]
        refine oneH (i := 5) rfl (by kernel_rfl) rfl (call_same (d := 12) (f := 7) (xs := #[.tmp 11, .const (.int .i64 2)]) (ats := #[3, 3]) rfl rfl epk (vs := #[.int .i64 x.phase, .int .i64 2]) (by simp [Act.eval]) (C2.out _) ⟨(KS.out _ BA.out), ?_⟩)
        simp only [Act.put, List.setIfInBounds_toArray, List.set_cons_zero, List.set_cons_succ]
        refine takeH (i := 8) (v := .agg #[.int .i64 p1, .int .i64 p2, .bool x.fresh, .slice none 0 0, .slice none 0 0]) (d := 15) rfl rfl (by kernel_rfl) (by kernel_rfl) (by kernel_rfl) (fun _ _ _ h => h) (by rfl) (fun V hV => by obtain ⟨v1, v2, v3⟩ := hV; go_simp) (KS.out _ BA.out) ?_
        simp only [Act.put, List.setIfInBounds_toArray, List.set_cons_zero, List.set_cons_succ]
        refine wpAnyH_done (by kernel_rfl) ?_ _
        exact HG.out
    case w2 =>
      refine op_run (d := 3) (v' := .pointer (some ⟨W0.heap.size, 0, none⟩)) (w' := W0.drew.alloc (.cells #[.int .i64 0, .int .i64 0, .bool false, .slice none 0 0, .slice none 0 0] 28)) rfl (by go_simp) ⟨(KS.out _ BA.out), ?_⟩
      simp only [Act.put, List.setIfInBounds_toArray, List.set_cons_zero, List.set_cons_succ]
      refine oneH (i := 2) rfl (by kernel_rfl) rfl (call_same (d := 9) (f := 7) (xs := #[.tmp 8, .const (.int .i64 100001)]) (ats := #[3, 3]) rfl rfl epk (vs := #[.int .i64 x.step, .int .i64 100001]) (by simp [Act.eval]) (C1.out _) ⟨(KS.out _ BA.out), ?_⟩)
      simp only [Act.put, List.setIfInBounds_toArray, List.set_cons_zero, List.set_cons_succ]
      refine oneH (i := 5) rfl (by kernel_rfl) rfl (call_same (d := 12) (f := 7) (xs := #[.tmp 11, .const (.int .i64 2)]) (ats := #[3, 3]) rfl rfl epk (vs := #[.int .i64 x.phase, .int .i64 2]) (by simp [Act.eval]) (C2.out _) ⟨(KS.out _ BA.out), ?_⟩)
      simp only [Act.put, List.setIfInBounds_toArray, List.set_cons_zero, List.set_cons_succ]
      refine takeH (i := 8) (v := .agg #[.int .i64 p1, .int .i64 p2, .bool x.fresh, .slice none 0 0, .slice none 0 0]) (d := 15) rfl rfl (by kernel_rfl) (by kernel_rfl) (by kernel_rfl) (fun _ _ _ h => h) (by rfl) (fun V hV => by obtain ⟨v1, v2, v3⟩ := hV; go_simp) (KS.out _ BA.out) ?_
      simp only [Act.put, List.setIfInBounds_toArray, List.set_cons_zero, List.set_cons_succ]
      refine wpAnyH_done (by kernel_rfl) ?_ _
      exact HG.out
  show Oper.wp _ _ _ _ _ _
  obtain ⟨f0, f1, f2, f3, f4⟩ := NX.out.all5f
  obtain ⟨d0, d1, d2, d3, d4⟩ := NX.out.all5
  go_upto_region 2 with fail
  clear f0 f1 f2 f3 f4 d0 d1 d2 d3 d4 NX BA BD KS C1 C2
  generalize (W0.alloc (.cells #[.int .i64 p1, .int .i64 p2, .bool x.fresh, .slice none 0 0, .slice none 0 0] 28)).drew = W1 at *
  have HK : Hid (∀ X, Below (w.heap.size + 2) W1 X → BX 24 X w.heap.size #[.int .i64 x.step, .int .i64 x.phase, .bool x.fresh, .slice a x.vals.length ca, .slice b x.mail.length cb] ∧ BX 28 X (w.heap.size + 1) #[.int .i64 0, .int .i64 0, .bool false, .slice none 0 0, .slice none 0 0] ∧ Below w.heap.size w X ∧ MlR X (.slice a x.vals.length ca) x.vals ∧ MlR X (.slice b x.mail.length cb) x.mail) := fun X hX => by
    have h9 := NW.out.1
    rw [hs0] at h9
    exact HQ.out X (by rw [hs0]; exact h9.trans hX)
  have s1 : w.heap.size + 3 ≤ W1.heap.size := NW.out.2.lt
  go_wp2_with fail
  go_loopw [4] (fun i wr => ∃ (k : Nat) (u : Value), k ≤ x.vals.length ∧ k ≤ 10 ∧ i = .int .i64 k ∧ wr.ownsRow (w.heap.size + 3) 53 2 u ((x.vals.take k).map keptV).length (((x.vals.take k).map keptV).flatMap encM) ∧ BX 28 wr (w.heap.size + 2) #[.int .i64 p1, .int .i64 p2, .bool x.fresh, u, .slice none 0 0] ∧ Below (w.heap.size + 2) W1 wr) (fun i _ => x.vals.length - (intOf i).toNat)
  case atStart => exact ⟨0, _, by omega, by omega, rfl, World.ownsRow_nil _ _ _ _, NW.out.2, Below.refl _ _⟩
  case round =>
    obtain ⟨k, u, hk, hk10, rfl, hown, hbox, hbel⟩ := hrel
    have OW : Hid (wr.ownsRow (w.heap.size + 3) 53 2 u ((x.vals.take k).map keptV).length (((x.vals.take k).map keptV).flatMap encM)) := hown
    have HB : Hid (Below (w.heap.size + 2) W1 wr) := hbel
    have HX : Hid (BX 28 wr (w.heap.size + 2) #[.int .i64 p1, .int .i64 p2, .bool x.fresh, u, .slice none 0 0]) := hbox
    have hsr : w.heap.size + 3 ≤ wr.heap.size := hbox.lt
    obtain ⟨ua, un, uc, rfl⟩ : ∃ a n c, u = .slice a n c := by obtain ⟨a, c, e, _⟩ := RowK.own encM_len hown; exact ⟨_, _, _, e⟩
    obtain ⟨x0, x1, x2, x3, x4⟩ := hbox.all5
    obtain ⟨g0, g1, g2, g3, g4⟩ := hbox.all5f
    obtain ⟨QX, QY, _, QV, QM⟩ := HK.out _ hbel
    obtain ⟨q0, q1, q2, q3, q4⟩ := QX.all5
    have HQV : Hid (MlR wr (.slice a x.vals.length ca) x.vals) := QV
    have HQM : Hid (MlR wr (.slice b x.mail.length cb) x.mail) := QM
    have HQY : Hid (BX 28 wr (w.heap.size + 1) #[.int .i64 0, .int .i64 0, .bool false, .slice none 0 0, .slice none 0 0]) := QY
    clear hown hbel hbox QX QY QV QM
    by_cases hgo : k < x.vals.length ∧ k < 10
    · obtain ⟨hlt, hlt2⟩ := hgo
      obtain ⟨vb, off, cap', e1, _, _, lt, hv⟩ := MlR.at HQV.out (by omega)
      have ltw : vb < w.heap.size := by
        obtain ⟨b', off', cap'', e2, _, _, lt', _⟩ := MlR.at HV.out (by omega)
        rw [e1] at e2
        injection e2 with e2 _ _
        injection e2 with e2
        injection e2 with e2
        omega
      injection e1 with e1 _ e3
      subst e1 e3
      obtain ⟨y, hy⟩ := getX hlt
      obtain ⟨c1, c2⟩ := hv k y hy
      have hxb := HPB.out y (List.mem_of_getElem? hy)
      have HT : Hid ((x.vals.take (k + 1)).map keptV = (x.vals.take k).map keptV ++ [keptV y]) := by show _ = _; rw [take_snoc hy, List.map_append]; rfl
      have hlk : ((x.vals.take k).map keptV).length = k := by simp; omega
      obtain ⟨⟨b0, b1⟩, ⟨b2, b3⟩⟩ := hxb
      have z1 := pickF_bd y.2 4398046511106 (by decide)
      have z2 := pickF_bd y.1 201 (by decide)
      have wz1 : IntKind.i64.wrap (pickF y.2 4398046511106 - 1) = pickF y.2 4398046511106 - 1 := wrap_id64 (by omega) (by omega)
      have wz2 : IntKind.i64.wrap (pickF y.1 201 - 1) = pickF y.1 201 - 1 := wrap_id64 (by omega) (by omega)
      have p0 : (0 : Int) ≤ (k : Int) := by omega
      have pk : (k : Int) < (x.vals.length : Int) := by omega
      have CA : Hid (∀ X, Calls Tryz.prog 7 #[.int .i64 y.2, .int .i64 4398046511106] X fun e w' => e = .returned (.int .i64 (pickF y.2 4398046511106)) ∧ w' = X) := fun X => picked_any _ _ X b2 b3 (by decide) (by decide)
      have CB : Hid (∀ X, Calls Tryz.prog 7 #[.int .i64 y.1, .int .i64 201] X fun e w' => e = .returned (.int .i64 (pickF y.1 201)) ∧ w' = X) := fun X => picked_any _ _ X b0 b1 (by decide) (by decide)
      clear hv hy
      generalize hff : (x.vals.take k).map keptV = f at *
      clear hff
      go_upto_region 5 with fail
      have hsz : (wr.alloc (.cells #[.int .i64 (pickF y.2 4398046511106 - 1), .int .i64 (pickF y.1 201 - 1)] 53)).drew.heap.size = wr.heap.size + 1 := by simp
      obtain ⟨g, gc, w2, hrun, hown2, hgr⟩ := run_append_newK kV (w := (wr.alloc (.cells #[.int .i64 (pickF y.2 4398046511106 - 1), .int .i64 (pickF y.1 201 - 1)] 53)).drew) 25 (w.heap.size + 3) (.slice ua un uc) f ((OW.out.alloc _).drew) wr.heap.size (keptV y) #[.int .i64 (pickF y.2 4398046511106 - 1), .int .i64 (pickF y.1 201 - 1)] rfl (0, 0) (heap_alloc_new wr _) (by simp only [kV]; omega) (by unfold maxLen; omega) (by rw [hsz]; omega)
      unfold kV at hrun
      simp only at hrun
      have hbb : Below (w.heap.size + 3) wr w2 := (((Below.refl _ _).alloc hsr _).drew).grown hgr (by rw [hsz]; omega) (fun j hj => (OW.out.lt j hj).1)
      have O2' : Hid (w2.ownsRow (w.heap.size + 3) 53 2 (.slice (some ⟨g, 0, none⟩) (k + 1) gc) ((x.vals.take (k + 1)).map keptV).length (((x.vals.take (k + 1)).map keptV).flatMap encM)) := by
        show World.ownsRow _ _ _ _ _ _ _
        rw [HT.out]
        have h9 := hown2
        rw [hlk] at h9
        exact h9
      have B2 : Hid (Below (w.heap.size + 3) wr w2) := hbb
      rw [hlk] at hrun
      clear hown2 hgr hsz hbb hlk
      have KEEP : Hid (∀ V : World, (∀ q, q < wr.heap.size → q < w.heap.size + 3 → V.heap[q]? = wr.heap[q]?) → V.cell? ⟨w.heap.size + 2, 3, none⟩ = some (.slice ua un uc) ∧ V.cell? ⟨w.heap.size, 3, none⟩ = some (.slice (some ⟨vb, off, none⟩) x.vals.length ca) ∧ V.cell? ⟨vb, off + k * 2, none⟩ = some (.int .i64 y.1) ∧ V.cell? ⟨vb, off + k * 2 + 1, none⟩ = some (.int .i64 y.2)) := fun V hVV => by
        have cc : ∀ (q j : Nat) (u : Value), q < w.heap.size + 3 → wr.cell? ⟨q, j, none⟩ = some u → V.cell? ⟨q, j, none⟩ = some u := fun q j u hq hu => (World.cell?_of_block (a := ⟨q, j, none⟩) (hVV q (World.block_lt_of_cell? wr _ hu) hq)).trans hu
        exact ⟨cc _ _ _ (by omega) x3, cc _ _ _ (by omega) q3, cc _ _ _ (by omega) c1, cc _ _ _ (by omega) c2⟩
      have HSD : Hid (wr.drew.cell? ⟨w.heap.size + 2, 3, none⟩ = some (.slice ua un uc) ∧ wr.drew.cell? ⟨w.heap.size, 3, none⟩ = some (.slice (some ⟨vb, off, none⟩) x.vals.length ca) ∧ wr.drew.cell? ⟨vb, off + k * 2, none⟩ = some (.int .i64 y.1) ∧ wr.drew.cell? ⟨vb, off + k * 2 + 1, none⟩ = some (.int .i64 y.2)) := KEEP.out _ (fun _ _ _ => rfl)
      have HSE : Hid ((wr.alloc (.cells #[.int .i64 (pickF y.2 4398046511106 - 1), .int .i64 (pickF y.1 201 - 1)] 53)).drew.cell? ⟨w.heap.size + 2, 3, none⟩ = some (.slice ua un uc) ∧ (wr.alloc (.cells #[.int .i64 (pickF y.2 4398046511106 - 1), .int .i64 (pickF y.1 201 - 1)] 53)).drew.cell? ⟨w.heap.size, 3, none⟩ = some (.slice (some ⟨vb, off, none⟩) x.vals.length ca) ∧ (wr.alloc (.cells #[.int .i64 (pickF y.2 4398046511106 - 1), .int .i64 (pickF y.1 201 - 1)] 53)).drew.cell? ⟨vb, off + k * 2, none⟩ = some (.int .i64 y.1) ∧ (wr.alloc (.cells #[.int .i64 (pickF y.2 4398046511106 - 1), .int .i64 (pickF y.1 201 - 1)] 53)).drew.cell? ⟨vb, off + k * 2 + 1, none⟩ = some (.int .i64 y.2)) := KEEP.out _ (fun q hq _ => (below_alloc wr _).block q hq)
      have HSF : Hid (w2.cell? ⟨w.heap.size + 2, 3, none⟩ = some (.slice ua un uc) ∧ w2.cell? ⟨w.heap.size, 3, none⟩ = some (.slice (some ⟨vb, off, none⟩) x.vals.length ca) ∧ w2.cell? ⟨vb, off + k * 2, none⟩ = some (.int .i64 y.1) ∧ w2.cell? ⟨vb, off + k * 2 + 1, none⟩ = some (.int .i64 y.2)) := KEEP.out _ (fun q _ hq => B2.out.block q hq)
      have Y2 : Hid (BX 28 w2 (w.heap.size + 2) #[.int .i64 p1, .int .i64 p2, .bool x.fresh, .slice ua un uc, .slice none 0 0]) := HX.out.below B2.out (by omega)
      refine region_lastF (S := fun V => V.cell? ⟨w.heap.size + 2, 3, none⟩ = some (.slice ua un uc) ∧ V.cell? ⟨w.heap.size, 3, none⟩ = some (.slice (some ⟨vb, off, none⟩) x.vals.length ca) ∧ V.cell? ⟨vb, off + k * 2, none⟩ = some (.int .i64 y.1) ∧ V.cell? ⟨vb, off + k * 2 + 1, none⟩ = some (.int .i64 y.2)) (by kernel_rfl) (by kernel_rfl) (by kernel_rfl) (by kernel_rfl) ?_
      simp only [List.pop_toArray, List.dropLast_cons_cons, List.dropLast_singleton, List.size_toArray, List.length_cons, List.length_nil, Nat.reduceAdd]
      refine takeH (i := 0) (v := .pointer (some ⟨w.heap.size + 2, 3, none⟩)) (d := 27) rfl rfl (by kernel_rfl) (by kernel_rfl) (by kernel_rfl) (fun _ _ _ h => h) (by rfl) (fun V hV => by obtain ⟨v1, v2, v3, v4⟩ := hV; go_simp) HSD.out ?_
      simp only [Act.put, List.setIfInBounds_toArray, List.set_cons_zero, List.set_cons_succ]
      refine takeH (i := 1) (v := .slice ua un uc) (d := 28) rfl rfl (by kernel_rfl) (by kernel_rfl) (by kernel_rfl) (fun _ _ _ h => h) (by rfl) (fun V hV => by obtain ⟨v1, v2, v3, v4⟩ := hV; go_simp) HSD.out ?_
      simp only [Act.put, List.setIfInBounds_toArray, List.set_cons_zero, List.set_cons_succ]
      refine takeH (i := 2) (v := .pointer (some ⟨w.heap.size, 3, none⟩)) (d := 29) rfl rfl (by kernel_rfl) (by kernel_rfl) (by kernel_rfl) (fun _ _ _ h => h) (by rfl) (fun V hV => by obtain ⟨v1, v2, v3, v4⟩ := hV; go_simp) HSD.out ?_
      simp only [Act.put, List.setIfInBounds_toArray, List.set_cons_zero, List.set_cons_succ]
      refine takeH (i := 3) (v := .slice (some ⟨vb, off, none⟩) x.vals.length ca) (d := 30) rfl rfl (by kernel_rfl) (by kernel_rfl) (by kernel_rfl) (fun _ _ _ h => h) (by rfl) (fun V hV => by obtain ⟨v1, v2, v3, v4⟩ := hV; go_simp) HSD.out ?_
      simp only [Act.put, List.setIfInBounds_toArray, List.set_cons_zero, List.set_cons_succ]
      refine takeH (i := 4) (v := .int .i64 (k : Int)) (d := 31) rfl rfl (by kernel_rfl) (by kernel_rfl) (by kernel_rfl) (fun _ _ _ h => h) (by rfl) (fun V hV => by obtain ⟨v1, v2, v3, v4⟩ := hV; go_simp) HSD.out ?_
      simp only [Act.put, List.setIfInBounds_toArray, List.set_cons_zero, List.set_cons_succ]
      refine takeH (i := 5) (v := .pointer (some ⟨vb, off + k * 2, none⟩)) (d := 32) rfl rfl (by kernel_rfl) (by kernel_rfl) (by kernel_rfl) (fun _ _ _ h => h) (by rfl) (fun V hV => by obtain ⟨v1, v2, v3, v4⟩ := hV; go_simp) HSD.out ?_
      simp only [Act.put, List.setIfInBounds_toArray, List.set_cons_zero, List.set_cons_succ]
      refine takeH (i := 6) (v := .pointer (some ⟨vb, off + k * 2 + 1, none⟩)) (d := 33) rfl rfl (by kernel_rfl) (by kernel_rfl) (by kernel_rfl) (fun _ _ _ h => h) (by rfl) (fun V hV => by obtain ⟨v1, v2, v3, v4⟩ := hV; go_simp) HSD.out ?_
      simp only [Act.put, List.setIfInBounds_toArray, List.set_cons_zero, List.set_cons_succ]
      refine takeH (i := 7) (v := .int .i64 y.2) (d := 34) rfl rfl (by kernel_rfl) (by kernel_rfl) (by kernel_rfl) (fun _ _ _ h => h) (by rfl) (fun V hV => by obtain ⟨v1, v2, v3, v4⟩ := hV; go_simp) HSD.out ?_
      simp only [Act.put, List.setIfInBounds_toArray, List.set_cons_zero, List.set_cons_succ]
      refine takeH (i := 10) (v := .pointer (some ⟨w.heap.size, 3, none⟩)) (d := 37) rfl rfl (by kernel_rfl) (by kernel_rfl) (by kernel_rfl) (fun _ _ _ h => h) (by rfl) (fun V hV => by obtain ⟨v1, v2, v3, v4⟩ := hV; go_simp) HSD.out ?_
      simp only [Act.put, List.setIfInBounds_toArray, List.set_cons_zero, List.set_cons_succ]
      refine takeH (i := 11) (v := .slice (some ⟨vb, off, none⟩) x.vals.length ca) (d := 38) rfl rfl (by kernel_rfl) (by kernel_rfl) (by kernel_rfl) (fun _ _ _ h => h) (by rfl) (fun V hV => by obtain ⟨v1, v2, v3, v4⟩ := hV; go_simp) HSD.out ?_
      simp only [Act.put, List.setIfInBounds_toArray, List.set_cons_zero, List.set_cons_succ]
      refine takeH (i := 12) (v := .int .i64 (k : Int)) (d := 39) rfl rfl (by kernel_rfl) (by kernel_rfl) (by kernel_rfl) (fun _ _ _ h => h) (by rfl) (fun V hV => by obtain ⟨v1, v2, v3, v4⟩ := hV; go_simp) HSD.out ?_
      simp only [Act.put, List.setIfInBounds_toArray, List.set_cons_zero, List.set_cons_succ]
      refine takeH (i := 13) (v := .pointer (some ⟨vb, off + k * 2, none⟩)) (d := 40) rfl rfl (by kernel_rfl) (by kernel_rfl) (by kernel_rfl) (fun _ _ _ h => h) (by rfl) (fun V hV => by obtain ⟨v1, v2, v3, v4⟩ := hV; go_simp) HSD.out ?_
      simp only [Act.put, List.setIfInBounds_toArray, List.set_cons_zero, List.set_cons_succ]
      refine takeH (i := 14) (v := .pointer (some ⟨vb, off + k * 2, none⟩)) (d := 41) rfl rfl (by kernel_rfl) (by kernel_rfl) (by kernel_rfl) (fun _ _ _ h => h) (by rfl) (fun V hV => by obtain ⟨v1, v2, v3, v4⟩ := hV; go_simp) HSD.out ?_
      simp only [Act.put, List.setIfInBounds_toArray, List.set_cons_zero, List.set_cons_succ]
      refine takeH (i := 15) (v := .int .i64 y.1) (d := 42) rfl rfl (by kernel_rfl) (by kernel_rfl) (by kernel_rfl) (fun _ _ _ h => h) (by rfl) (fun V hV => by obtain ⟨v1, v2, v3, v4⟩ := hV; go_simp) HSD.out ?_
      simp only [Act.put, List.setIfInBounds_toArray, List.set_cons_zero, List.set_cons_succ]
      refine oneH (i := 8) rfl (by kernel_rfl) rfl (call_same (d := 35) (f := 7) (xs := #[.tmp 34, .const (.int .i64 4398046511106)]) (ats := #[3, 3]) rfl rfl epk (vs := #[.int .i64 y.2, .int .i64 4398046511106]) (by simp [Act.eval]) (CA.out _) ⟨HSD.out, ?_⟩)
      simp only [Act.put, List.setIfInBounds_toArray, List.set_cons_zero, List.set_cons_succ]
      refine takeH (i := 9) (v := .int .i64 (pickF y.2 4398046511106 - 1)) (d := 36) rfl rfl (by kernel_rfl) (by kernel_rfl) (by kernel_rfl) (fun _ _ _ h => h) (by rfl) (fun V hV => by obtain ⟨v1, v2, v3, v4⟩ := hV; go_simp) HSD.out ?_
      simp only [Act.put, List.setIfInBounds_toArray, List.set_cons_zero, List.set_cons_succ]
      refine oneH (i := 16) rfl (by kernel_rfl) rfl (call_same (d := 43) (f := 7) (xs := #[.tmp 42, .const (.int .i64 201)]) (ats := #[3, 3]) rfl rfl epk (vs := #[.int .i64 y.1, .int .i64 201]) (by simp [Act.eval]) (CB.out _) ⟨HSD.out, ?_⟩)
      simp only [Act.put, List.setIfInBounds_toArray, List.set_cons_zero, List.set_cons_succ]
      refine takeH (i := 17) (v := .int .i64 (pickF y.1 201 - 1)) (d := 44) rfl rfl (by kernel_rfl) (by kernel_rfl) (by kernel_rfl) (fun _ _ _ h => h) (by rfl) (fun V hV => by obtain ⟨v1, v2, v3, v4⟩ := hV; go_simp) HSD.out ?_
      simp only [Act.put, List.setIfInBounds_toArray, List.set_cons_zero, List.set_cons_succ]
      refine takeH (i := 18) (v := .agg #[.int .i64 (pickF y.2 4398046511106 - 1), .int .i64 (pickF y.1 201 - 1)]) (d := 45) rfl rfl (by kernel_rfl) (by kernel_rfl) (by kernel_rfl) (fun _ _ _ h => h) (by rfl) (fun V hV => by obtain ⟨v1, v2, v3, v4⟩ := hV; go_simp) HSD.out ?_
      simp only [Act.put, List.setIfInBounds_toArray, List.set_cons_zero, List.set_cons_succ]
      refine oneH (i := 19) rfl (by kernel_rfl) rfl (op_run (d := 46) (v' := .slice (some ⟨wr.heap.size, 0, none⟩) 1 1) (w' := (wr.alloc (.cells #[.int .i64 (pickF y.2 4398046511106 - 1), .int .i64 (pickF y.1 201 - 1)] 53)).drew) rfl (by go_simp) ⟨HSE.out, ?_⟩)
      simp only [Act.put, List.setIfInBounds_toArray, List.set_cons_zero, List.set_cons_succ]
      refine oneH (i := 20) rfl (by kernel_rfl) rfl (call_append (d := 47) (s := .tmp 28) (x := .tmp 46) (t := 25) rfl rfl (v := .slice ua un uc) (v2 := .slice (some ⟨wr.heap.size, 0, none⟩) 1 1) (by simp [Act.eval]) (by simp [Act.eval]) hrun ⟨HSF.out, ?_⟩)
      simp only [Act.put, List.setIfInBounds_toArray, List.set_cons_zero, List.set_cons_succ]
      refine takeH (i := 21) (v := .pointer (some ⟨w.heap.size + 2, 3, none⟩)) (d := 48) rfl rfl (by kernel_rfl) (by kernel_rfl) (by kernel_rfl) (fun _ _ _ h => h) (by rfl) (fun V hV => by obtain ⟨v1, v2, v3, v4⟩ := hV; go_simp) HSF.out ?_
      simp only [Act.put, List.setIfInBounds_toArray, List.set_cons_zero, List.set_cons_succ]
      refine wpAnyH_done (by kernel_rfl) ?_ _
      clear HSD HSE HSF
      show Oper.wp _ _ _ _ _ _
      clear x0 x1 x2 x3 x4 g0 g1 g2 g3 g4 q0 q1 q2 q3 q4
      obtain ⟨x0, x1, x2, x3, x4⟩ := Y2.out.all5
      obtain ⟨g0, g1, g2, g3, g4⟩ := Y2.out.all5f
      go_wp2_with fail
      go_roundw
      case rel => exact ⟨k + 1, .slice (some ⟨g, 0, none⟩) (k + 1) gc, by omega, by omega, by go_num, Y2.out.own O2'.out (by decide), Y2.out.set 3 _, (HB.out.trans (B2.out.mono (by omega))).setCell (Nat.le_refl _) _⟩
      case measure => simp [intOf]; omega
    · have O3 : Hid (wr.ownsRow (w.heap.size + 3) 53 2 (.slice ua un uc) ((x.vals.take 10).map keptV).length (((x.vals.take 10).map keptV).flatMap encM)) := by
        have e : (x.vals.take k).map keptV = (x.vals.take 10).map keptV := by
          congr 1
          by_cases h9 : k < x.vals.length
          · rw [show k = 10 by omega]
          · rw [List.take_of_length_le (by omega), List.take_of_length_le (by omega)]
        rw [← e]; exact OW.out
      clear OW g0 g1 g2 g3 g4
      by_cases h9 : k < x.vals.length
      · have t2 : ¬ k < 10 := fun h => hgo ⟨h9, h⟩
        clear hgo
        go_wp2_with fail
        refine (CP.out _ _ HQM.out).mono ?_
        rintro e w3 ⟨v3, rfl, ho3, hb3⟩
        have R3 : Hid (MlR w3 v3 pm) := RowK.own encM_len ho3
        obtain ⟨pa, pc, rfl⟩ := R3.out.shape
        have B3 : Hid (Below wr.heap.size wr w3) := hb3
        clear ho3 hb3
        go_wp2_with fail
        refine (CS.out _ _ R3.out).mono ?_
        rintro e w4 ⟨sa, sc, rfl, ho4, hb4⟩
        have B4 : Below wr.heap.size wr w4 := B3.out.trans (hb4.mono B3.out.size)
        have Y4 : BX 28 w4 (w.heap.size + 2) #[.int .i64 p1, .int .i64 p2, .bool x.fresh, .slice ua un uc, .slice none 0 0] := HX.out.below B4 (by omega)
        have Z4 : BX 28 w4 (w.heap.size + 1) #[.int .i64 0, .int .i64 0, .bool false, .slice none 0 0, .slice none 0 0] := HQY.out.below B4 (by omega)
        have V4 : w4.ownsRow (w.heap.size + 3) 53 2 (.slice ua un uc) ((x.vals.take 10).map keptV).length (((x.vals.take 10).map keptV).flatMap encM) := own_below O3.out B4 (Nat.le_refl _)
        have L4 : Below w.heap.size w w4 := (HK.out _ HB.out).2.2.1.trans (B4.mono (by omega))
        have M4 : w4.ownsRow w.heap.size 62 2 (.slice sa sm.length sc) sm.length (sm.flatMap encM) := own_lower ho4 (by have := B3.out.size; omega)
        have N5 : Hid (BX 28 (w4.setCell ⟨w.heap.size + 2, 4, none⟩ (.slice sa sm.length sc)) (w.heap.size + 2) #[.int .i64 p1, .int .i64 p2, .bool x.fresh, .slice ua un uc, .slice sa sm.length sc] ∧ BX 28 (w4.setCell ⟨w.heap.size + 2, 4, none⟩ (.slice sa sm.length sc)) (w.heap.size + 1) #[.int .i64 0, .int .i64 0, .bool false, .slice none 0 0, .slice none 0 0] ∧ (w4.setCell ⟨w.heap.size + 2, 4, none⟩ (.slice sa sm.length sc)).ownsRow (w.heap.size + 3) 53 2 (.slice ua un uc) ((x.vals.take 10).map keptV).length (((x.vals.take 10).map keptV).flatMap encM) ∧ (w4.setCell ⟨w.heap.size + 2, 4, none⟩ (.slice sa sm.length sc)).ownsRow w.heap.size 62 2 (.slice sa sm.length sc) sm.length (sm.flatMap encM) ∧ Below w.heap.size w (w4.setCell ⟨w.heap.size + 2, 4, none⟩ (.slice sa sm.length sc))) := ⟨Y4.set 4 _, Z4.other (by omega), Y4.own V4 (by decide), Y4.own M4 (by decide), L4.setCell (show w.heap.size ≤ w.heap.size + 2 by omega) _⟩
        clear x0 x1 x2 x3 x4 q0 q1 q2 q3 q4
        obtain ⟨x0, x1, x2, x3, x4⟩ := Y4.all5
        obtain ⟨g0, g1, g2, g3, g4⟩ := Y4.all5f
        clear Y4 Z4 V4 M4 L4 B4 ho4 hb4
        go_upto_region 9 with fail
        generalize w4.setCell ⟨w.heap.size + 2, 4, none⟩ (.slice sa sm.length sc) = w5 at *
        clear x0 x1 x2 x3 x4 g0 g1 g2 g3 g4
        obtain ⟨x0, x1, x2, x3, x4⟩ := N5.out.1.all5
        obtain ⟨y0, y1, y2, y3, y4⟩ := N5.out.2.1.all5
        obtain ⟨g0, g1, g2, g3, g4⟩ := N5.out.2.1.all5f
        have RX : Hid (BX 28 (putS w5 (w.heap.size + 1) (.int .i64 p1) (.int .i64 p2) (.bool x.fresh) (.slice ua un uc) (.slice sa sm.length sc)) (w.heap.size + 1) #[.int .i64 p1, .int .i64 p2, .bool x.fresh, .slice ua un uc, .slice sa sm.length sc]) := N5.out.2.1.putS
        have RV : Hid (PP (.returned (.agg #[.int .i64 p1, .int .i64 p2, .bool x.fresh, .slice ua un uc, .slice sa sm.length sc])) (putS w5 (w.heap.size + 1) (.int .i64 p1) (.int .i64 p2) (.bool x.fresh) (.slice ua un uc) (.slice sa sm.length sc))) := HEND.out _ _ _ (own_lower (own_off N5.out.2.2.1 N5.out.2.1 (by decide) (kept_putS w5 (w.heap.size + 1) _ _ _ _ _)) (by omega)) (own_off N5.out.2.2.2.1 N5.out.2.1 (by decide) (kept_putS w5 (w.heap.size + 1) _ _ _ _ _)) (below_putS N5.out.2.2.2.2 (by omega) _ _ _ _ _)
        unfold putS at RX RV
        go_wp2_with fail
        obtain ⟨r0, r1, r2, r3, r4⟩ := RX.out.all5
        exact bodyPost_ret (v := .agg #[.int .i64 p1, .int .i64 p2, .bool x.fresh, .slice ua un uc, .slice sa sm.length sc]) (by simp [results, Tryz.results6, go_sem, r0, r1, r2, r3, r4]) rfl RV.out
      · clear hgo
        go_wp2_with fail
        refine (CP.out _ _ HQM.out).mono ?_
        rintro e w3 ⟨v3, rfl, ho3, hb3⟩
        have R3 : Hid (MlR w3 v3 pm) := RowK.own encM_len ho3
        obtain ⟨pa, pc, rfl⟩ := R3.out.shape
        have B3 : Hid (Below wr.heap.size wr w3) := hb3
        clear ho3 hb3
        go_wp2_with fail
        refine (CS.out _ _ R3.out).mono ?_
        rintro e w4 ⟨sa, sc, rfl, ho4, hb4⟩
        have B4 : Below wr.heap.size wr w4 := B3.out.trans (hb4.mono B3.out.size)
        have Y4 : BX 28 w4 (w.heap.size + 2) #[.int .i64 p1, .int .i64 p2, .bool x.fresh, .slice ua un uc, .slice none 0 0] := HX.out.below B4 (by omega)
        have Z4 : BX 28 w4 (w.heap.size + 1) #[.int .i64 0, .int .i64 0, .bool false, .slice none 0 0, .slice none 0 0] := HQY.out.below B4 (by omega)
        have V4 : w4.ownsRow (w.heap.size + 3) 53 2 (.slice ua un uc) ((x.vals.take 10).map keptV).length (((x.vals.take 10).map keptV).flatMap encM) := own_below O3.out B4 (Nat.le_refl _)
        have L4 : Below w.heap.size w w4 := (HK.out _ HB.out).2.2.1.trans (B4.mono (by omega))
        have M4 : w4.ownsRow w.heap.size 62 2 (.slice sa sm.length sc) sm.length (sm.flatMap encM) := own_lower ho4 (by have := B3.out.size; omega)
        have N5 : Hid (BX 28 (w4.setCell ⟨w.heap.size + 2, 4, none⟩ (.slice sa sm.length sc)) (w.heap.size + 2) #[.int .i64 p1, .int .i64 p2, .bool x.fresh, .slice ua un uc, .slice sa sm.length sc] ∧ BX 28 (w4.setCell ⟨w.heap.size + 2, 4, none⟩ (.slice sa sm.length sc)) (w.heap.size + 1) #[.int .i64 0, .int .i64 0, .bool false, .slice none 0 0, .slice none 0 0] ∧ (w4.setCell ⟨w.heap.size + 2, 4, none⟩ (.slice sa sm.length sc)).ownsRow (w.heap.size + 3) 53 2 (.slice ua un uc) ((x.vals.take 10).map keptV).length (((x.vals.take 10).map keptV).flatMap encM) ∧ (w4.setCell ⟨w.heap.size + 2, 4, none⟩ (.slice sa sm.length sc)).ownsRow w.heap.size 62 2 (.slice sa sm.length sc) sm.length (sm.flatMap encM) ∧ Below w.heap.size w (w4.setCell ⟨w.heap.size + 2, 4, none⟩ (.slice sa sm.length sc))) := ⟨Y4.set 4 _, Z4.other (by omega), Y4.own V4 (by decide), Y4.own M4 (by decide), L4.setCell (show w.heap.size ≤ w.heap.size + 2 by omega) _⟩
        clear x0 x1 x2 x3 x4 q0 q1 q2 q3 q4
        obtain ⟨x0, x1, x2, x3, x4⟩ := Y4.all5
        obtain ⟨g0, g1, g2, g3, g4⟩ := Y4.all5f
        clear Y4 Z4 V4 M4 L4 B4 ho4 hb4
        go_upto_region 9 with fail
        generalize w4.setCell ⟨w.heap.size + 2, 4, none⟩ (.slice sa sm.length sc) = w5 at *
        clear x0 x1 x2 x3 x4 g0 g1 g2 g3 g4
        obtain ⟨x0, x1, x2, x3, x4⟩ := N5.out.1.all5
        obtain ⟨y0, y1, y2, y3, y4⟩ := N5.out.2.1.all5
        obtain ⟨g0, g1, g2, g3, g4⟩ := N5.out.2.1.all5f
        have RX : Hid (BX 28 (putS w5 (w.heap.size + 1) (.int .i64 p1) (.int .i64 p2) (.bool x.fresh) (.slice ua un uc) (.slice sa sm.length sc)) (w.heap.size + 1) #[.int .i64 p1, .int .i64 p2, .bool x.fresh, .slice ua un uc, .slice sa sm.length sc]) := N5.out.2.1.putS
        have RV : Hid (PP (.returned (.agg #[.int .i64 p1, .int .i64 p2, .bool x.fresh, .slice ua un uc, .slice sa sm.length sc])) (putS w5 (w.heap.size + 1) (.int .i64 p1) (.int .i64 p2) (.bool x.fresh) (.slice ua un uc) (.slice sa sm.length sc))) := HEND.out _ _ _ (own_lower (own_off N5.out.2.2.1 N5.out.2.1 (by decide) (kept_putS w5 (w.heap.size + 1) _ _ _ _ _)) (by omega)) (own_off N5.out.2.2.2.1 N5.out.2.1 (by decide) (kept_putS w5 (w.heap.size + 1) _ _ _ _ _)) (below_putS N5.out.2.2.2.2 (by omega) _ _ _ _ _)
        unfold putS at RX RV
        go_wp2_with fail
        obtain ⟨r0, r1, r2, r3, r4⟩ := RX.out.all5
        exact bodyPost_ret (v := .agg #[.int .i64 p1, .int .i64 p2, .bool x.fresh, .slice ua un uc, .slice sa sm.length sc]) (by simp [results, Tryz.results6, go_sem, r0, r1, r2, r3, r4]) rfl RV.out
end Go.Proofs.YtkgdenbabafeoaaGreatDoor

namespace Go.Proofs.YtkgdenbabafeoaaGreatDoor
set_option maxRecDepth 100000
open Go.ChangeShapes Go.WideShapes Go.ChangeAt Go.RowKit

set_option maxHeartbeats 4000000 in
set_option maxRecDepth 100000 in
theorem ckSeal_any (v : Value) (fs : List FileL) (n : Int) (w : World) (h : DiskR w v fs) (hg : Good fs) :
    Calls Tryz.prog 11 #[.agg #[v], .int .i64 n] w (DskP w (sealE fs n)) := by
  have HD : Hid (DiskR w v fs) := h
  have HG : Hid (Good fs) := hg
  obtain ⟨a, cap, rfl⟩ : ∃ a c, v = .slice a fs.length c := by obtain ⟨a, c, e, _⟩ := h; exact ⟨a, c, e⟩
  clear h hg
  obtain ⟨W0, hW0⟩ : ∃ W0, W0 = (w.alloc (.cells #[.slice a fs.length cap] 39)).alloc (.cells #[.slice none 0 0] 39) := ⟨_, rfl⟩
  obtain ⟨Q0, M0, B0, s1, s2⟩ := boxes2 w #[.slice a fs.length cap] #[.slice none 0 0] 39 39 W0 hW0
  have HK : Hid (∀ X, Below W0.heap.size W0 X → BX 39 X w.heap.size #[.slice a fs.length cap] ∧ BX 39 X (w.heap.size + 1) #[.slice none 0 0] ∧ Below w.heap.size w X ∧ DiskR X (.slice a fs.length cap) fs) := fun X hX => by
    have hb := B0.trans (hX.mono (show w.heap.size ≤ W0.heap.size by omega))
    exact ⟨Q0.below hX (by omega), M0.below hX (by omega), hb, HD.out.below hb (Nat.le_refl _)⟩
  have A0 : Hid (Below W0.heap.size W0 W0) := Below.refl _ _
  obtain ⟨q0, _⟩ := Q0.all1
  obtain ⟨m0, m1⟩ := M0.all1
  clear Q0 M0 B0
  have HN : Hid (¬ (0 ≤ n ∧ n ≤ 1) → ∀ w', Below w.heap.size w w' → DskP w (sealE fs n) (.returned (.tuple #[.agg #[.slice none 0 0], .int .i64 2])) w') := fun h w' hb => by rw [sealE_no h]; exact DskP.none hb
  have HF : Hid (0 ≤ n ∧ n ≤ 1 → ¬ (chF fs (syncF fs nxt)).2 = 0 → ∀ w', Below w.heap.size w w' → DskP w (sealE fs n) (.returned (.tuple #[.agg #[.slice none 0 0], .int .i64 (chF fs (syncF fs nxt)).2])) w') := fun h h2 w' hb => by rw [sealE_err h h2]; exact DskP.none hb
  have HY : Hid (0 ≤ n ∧ n ≤ 1 → (chF fs (syncF fs nxt)).2 = 0 → ∀ v w', DiskR w' v (chF (chF fs (syncF fs nxt)).1 (renameF (chF fs (syncF fs nxt)).1 nxt (slotB n))).1 → Below w.heap.size w w' → DskP w (sealE fs n) (.returned (.tuple #[.agg #[v], .int .i64 (chF (chF fs (syncF fs nxt)).1 (renameF (chF fs (syncF fs nxt)).1 nxt (slotB n))).2])) w') := fun h h2 v w' hd hb => by rw [sealE_yes h h2]; exact ⟨_, rfl, hd, hb⟩
  generalize DskP w (sealE fs n) = P at *
  have CS : Hid (∀ X, DiskR X (.slice a fs.length cap) fs → Calls Tryz.prog 29 #[.agg #[.slice a fs.length cap], .string nxt] X fun e w' => ∃ v', e = .returned (.tuple #[.agg #[v'], .int .i64 (chF fs (syncF fs nxt)).2]) ∧ DiskR w' v' (chF fs (syncF fs nxt)).1 ∧ Below X.heap.size X w') := fun X h => diskSync_any _ fs nxt X h HG.out
  have HG1 : Hid (Good (chF fs (syncF fs nxt)).1) := good_ch HG.out (good_sync HG.out)
  by_cases hn : 0 ≤ n ∧ n ≤ 1
  case neg =>
    have HE : Hid (∀ w', Below w.heap.size w w' → P (.returned (.tuple #[.agg #[.slice none 0 0], .int .i64 2])) w') := HN.out hn
    have CN : Hid (∀ X, Calls Tryz.prog 28 #[.int .i64 n] X fun e w' => e = .returned (.tuple #[.string ByteArray.empty, .int .i64 2]) ∧ w' = X) := fun X => slotName_no n hn X
    clear HN HF HY CS hn m0 m1
    go_enter Tryz.func11, Tryz.ntmps11
    go_upto_region 1 with fail
    rw [← hW0]
    clear hW0
    go_wp2_with fail
    refine (CN.out _).mono ?_
    rintro e w1 ⟨rfl, e1⟩
    have e1' : W0 = w1 := e1.symm
    subst e1'
    clear e1
    obtain ⟨m0, m1⟩ := (HK.out _ A0.out).2.1.all1
    have HX : Hid (P (.returned (.tuple #[.agg #[.slice none 0 0], .int .i64 2])) (W0.setCell ⟨w.heap.size + 1, 0, none⟩ (.slice none 0 0))) := HE.out _ ((HK.out _ A0.out).2.2.1.setCell (Nat.le_succ _) _)
    have RX := ((HK.out _ A0.out).2.1.set 0 (.slice none 0 0)).all1.1
    go_wp2_with fail
    exact bodyPost_ret (v := .tuple #[.agg #[.slice none 0 0], .int .i64 2]) (by simp [results, Tryz.results11, go_sem, RX]) rfl HX.out
  have CN : Hid (∀ X, Calls Tryz.prog 28 #[.int .i64 n] X fun e w' => e = .returned (.tuple #[.string (slotB n), .int .i64 0]) ∧ w' = X) := fun X => slotName_yes n hn X
  replace HF : Hid (¬ (chF fs (syncF fs nxt)).2 = 0 → ∀ w', Below w.heap.size w w' → P (.returned (.tuple #[.agg #[.slice none 0 0], .int .i64 (chF fs (syncF fs nxt)).2])) w') := HF.out hn
  replace HY : Hid ((chF fs (syncF fs nxt)).2 = 0 → ∀ v w', DiskR w' v (chF (chF fs (syncF fs nxt)).1 (renameF (chF fs (syncF fs nxt)).1 nxt (slotB n))).1 → Below w.heap.size w w' → P (.returned (.tuple #[.agg #[v], .int .i64 (chF (chF fs (syncF fs nxt)).1 (renameF (chF fs (syncF fs nxt)).1 nxt (slotB n))).2])) w') := HY.out hn
  have HZ : Hid ((slotB n).size ≤ maxLen) := slotB_max n
  clear HN hn m0 m1
  generalize slotB n = sl at *
  generalize chF fs (syncF fs nxt) = R1 at *
  have hnx : nxt = ⟨#[110, 101, 120, 116]⟩ := rfl
  have CR : Hid (∀ X u, DiskR X u R1.1 → Calls Tryz.prog 30 #[.agg #[u], .string ⟨#[110, 101, 120, 116]⟩, .string sl] X fun e w' => ∃ v', e = .returned (.tuple #[.agg #[v'], .int .i64 (chF R1.1 (renameF R1.1 nxt sl)).2]) ∧ DiskR w' v' (chF R1.1 (renameF R1.1 nxt sl)).1 ∧ Below X.heap.size X w') := fun X u h => diskRename_any u R1.1 nxt sl X h HG1.out nxt_size HZ.out
  generalize chF R1.1 (renameF R1.1 nxt sl) = R2 at *
  obtain ⟨f1, t1⟩ := R1
  obtain ⟨f2, t2⟩ := R2
  simp only at CR CS HF HY HG1
  rw [hnx] at CS
  clear hnx
  have hw3 : Hid (∀ w2 v2, DiskR w2 v2 f1 → Below W0.heap.size W0 w2 → ∃ xa xc, v2 = .slice xa f1.length xc ∧ Below W0.heap.size W0 (w2.alloc (.cells #[v2] 39)) ∧ BX 39 (w2.alloc (.cells #[v2] 39)) w2.heap.size #[v2] ∧ DiskR (w2.alloc (.cells #[v2] 39)) v2 f1) := fun w2 v2 hd hb => by
    obtain ⟨xa, xc, e⟩ : ∃ a c, v2 = .slice a f1.length c := by obtain ⟨a, c, e, _⟩ := hd; exact ⟨a, c, e⟩
    exact ⟨xa, xc, e, hb.alloc hb.size _, BX.new _ _ _, hd.below (below_alloc _ _) (Nat.le_refl _)⟩
  by_cases ht : t1 = 0
  case neg =>
    have HE : Hid (∀ w', Below w.heap.size w w' → P (.returned (.tuple #[.agg #[.slice none 0 0], .int .i64 t1])) w') := HF.out ht
    have tn : (t1 != 0) = true := by simp [ht]
    clear HF HY ht CR
    go_enter Tryz.func11, Tryz.ntmps11
    go_upto_region 1 with fail
    rw [← hW0]
    clear hW0
    go_wp2_with fail
    refine (CN.out _).mono ?_
    rintro e w1 ⟨rfl, e1⟩
    have e1' : W0 = w1 := e1.symm
    subst e1'
    clear e1
    go_wp2_with fail
    refine (CS.out _ (HK.out _ A0.out).2.2.2).mono ?_
    rintro e w2 ⟨v2, rfl, hd2, hb2⟩
    obtain ⟨xa, xc, rfl, k1, k2, k3⟩ := hw3.out w2 v2 hd2 hb2
    have A3 : Hid (Below W0.heap.size W0 (w2.alloc (.cells #[.slice xa f1.length xc] 39))) := k1
    clear hd2 hb2 k1 k2 k3 q0 CS CN
    go_upto_region 5 with fail
    generalize w2.alloc (.cells #[.slice xa f1.length xc] 39) = w3 at *
    obtain ⟨m0, m1⟩ := (HK.out _ A3.out).2.1.all1
    have HX : Hid (P (.returned (.tuple #[.agg #[.slice none 0 0], .int .i64 t1])) (w3.setCell ⟨w.heap.size + 1, 0, none⟩ (.slice none 0 0))) := HE.out _ ((HK.out _ A3.out).2.2.1.setCell (Nat.le_succ _) _)
    have RX := ((HK.out _ A3.out).2.1.set 0 (.slice none 0 0)).all1.1
    go_wp2_with fail
    exact bodyPost_ret (v := .tuple #[.agg #[.slice none 0 0], .int .i64 t1]) (by simp [results, Tryz.results11, go_sem, RX]) rfl HX.out
  have HE : Hid (∀ v w', DiskR w' v f2 → Below w.heap.size w w' → P (.returned (.tuple #[.agg #[v], .int .i64 t2])) w') := HY.out ht
  subst ht
  clear HF HY
  go_enter Tryz.func11, Tryz.ntmps11
  go_upto_region 1 with fail
  rw [← hW0]
  clear hW0
  go_wp2_with fail
  refine (CN.out _).mono ?_
  rintro e w1 ⟨rfl, e1⟩
  have e1' : W0 = w1 := e1.symm
  subst e1'
  clear e1
  go_wp2_with fail
  refine (CS.out _ (HK.out _ A0.out).2.2.2).mono ?_
  rintro e w2 ⟨v2, rfl, hd2, hb2⟩
  obtain ⟨xa, xc, rfl, k1, k2, k3⟩ := hw3.out w2 v2 hd2 hb2
  have A3 : Hid (Below W0.heap.size W0 (w2.alloc (.cells #[.slice xa f1.length xc] 39))) := k1
  have X3 : Hid (BX 39 (w2.alloc (.cells #[.slice xa f1.length xc] 39)) w2.heap.size #[.slice xa f1.length xc] ∧ DiskR (w2.alloc (.cells #[.slice xa f1.length xc] 39)) (.slice xa f1.length xc) f1) := ⟨k2, k3⟩
  clear hd2 hb2 k1 k2 k3 q0 CS CN
  go_upto_region 5 with fail
  generalize w2.alloc (.cells #[.slice xa f1.length xc] 39) = w3 at *
  generalize w2.heap.size = b3 at *
  have x0 := X3.out.1.all1.1
  go_wp2_with fail
  refine (CR.out _ _ X3.out.2).mono ?_
  rintro e w4 ⟨v4, rfl, hd4, hb4⟩
  have A4 : Below W0.heap.size W0 w4 := A3.out.trans (hb4.mono A3.out.size)
  obtain ⟨ya, yc, rfl⟩ : ∃ a c, v4 = .slice a f2.length c := by obtain ⟨a, c, e, _⟩ := hd4; exact ⟨a, c, e⟩
  obtain ⟨m0, m1⟩ := (HK.out _ A4).2.1.all1
  have HX : Hid (P (.returned (.tuple #[.agg #[.slice ya f2.length yc], .int .i64 t2])) (w4.setCell ⟨w.heap.size + 1, 0, none⟩ (.slice ya f2.length yc))) := HE.out _ _ (hd4.setBox (HK.out _ A4).2.1) ((HK.out _ A4).2.2.1.setCell (Nat.le_succ _) _)
  have RX := ((HK.out _ A4).2.1.set 0 (.slice ya f2.length yc)).all1.1
  clear hd4 hb4 A4 x0
  go_wp2_with fail
  exact bodyPost_ret (v := .tuple #[.agg #[.slice ya f2.length yc], .int .i64 t2]) (by simp [results, Tryz.results11, go_sem, RX]) rfl HX.out
end Go.Proofs.YtkgdenbabafeoaaGreatDoor

namespace Go.Proofs.YtkgdenbabafeoaaGreatDoor
set_option maxRecDepth 100000
open Go.ChangeShapes Go.WideShapes Go.ChangeAt Go.RowKit
section
variable {P : Program} {ops : Array Oper} {Q : Exit → Act → World → Prop} {md : Region.Mode} {S : World → Prop} {late : Nat → Bool}

/-- Whatever order is picked; S holds behind every operation until a late one has come up. -/
def wpAnyL (P : Program) (md : Region.Mode) (ops : Array Oper) (Q : Exit → Act → World → Prop) (S : World → Prop) (late : Nat → Bool) : Nat → Bool → Array Bool → Act → World → Prop
  | 0, _, listed, a, w => Region.ready md ops listed = [] ∧ Q .normal a w
  | fuel + 1, fr, listed, a, w =>
    (Region.ready md ops listed = [] → Q .normal a w) ∧
    ∀ i ∈ Region.ready md ops listed, wpOp P ops Q i (fun a' w' => ((fr && !late i) = true → S w') ∧ wpAnyL P md ops Q S late fuel (fr && !late i) (listed.setIfInBounds i true) a' w') a w

theorem wpAny_of_late : ∀ (fuel : Nat) (fr : Bool) (listed : Array Bool) (a : Act) (w : World), wpAnyL P md ops Q S late fuel fr listed a w → wpAny P md ops Q fuel listed a w
  | 0, _, _, _, _, h => h
  | fuel + 1, _, _, _, _, h => ⟨h.1, fun i hi => wpOp_mono (fun a' w' h' => wpAny_of_late fuel _ _ a' w' h'.2) (h.2 i hi)⟩

/-- Every late operation waits for number i. -/
def lateOK (md : Region.Mode) (ops : Array Oper) (late : Nat → Bool) (i : Nat) : Bool :=
  !late i && (List.range ops.size).all fun j => !late j || (match ops[j]? with | some o => o.after.toList.any fun e => Region.binds md e && e.on == i | none => true)
theorem lateOK_spec {i : Nat} (h : lateOK md ops late i = true) : late i = false ∧ ∀ j oj, ops[j]? = some oj → late j = true → ∃ e ∈ oj.after, Region.binds md e = true ∧ e.on = i := by
  unfold lateOK at h
  rw [Bool.and_eq_true] at h
  refine ⟨by simpa using h.1, fun j oj hj hl => ?_⟩
  have hlt : j < ops.size := (Array.getElem?_eq_some_iff.1 hj).1
  have := List.all_eq_true.1 h.2 j (by simpa using hlt)
  rw [hj] at this
  simp only [hl, Bool.not_true, Bool.false_or] at this
  obtain ⟨e, he, h2⟩ := List.any_eq_true.1 this
  rw [Bool.and_eq_true] at h2
  exact ⟨e, by simpa using he, h2.1, by simpa using h2.2⟩

theorem wpAnyL_first {i : Nat} {oi : Oper} {v : Value} (hi : ops[i]? = some oi) (hsel : ∀ (j : Nat) (o : Oper) cs b, ops[j]? = some o → o.op ≠ .select cs b)
    (hQ : ∀ c a w, Q (.panic c) (a.put oi.dst v) w → Q (.panic c) a w) (hl : lateOK md ops late i = true) :
    ∀ (fuel : Nat) (listed : Array Bool) (a : Act) (w : World),
      (∀ j oj, ops[j]? = some oj → j ≠ i → listed.getD j true = false → (∀ e ∈ oj.after, Region.binds md e = true → e.on ≠ i) → oi.apart ops oj = true) →
      i ∈ Region.ready md ops listed → YieldsIf P ops S oi v a → S w →
      wpAnyL P md ops Q S late fuel true (listed.setIfInBounds i true) (a.put oi.dst v) w → wpAnyL P md ops Q S late (fuel + 1) true listed a w := by
  obtain ⟨hli, hlj⟩ := lateOK_spec hl
  intro fuel
  induction fuel with
  | zero =>
    intro listed a w _ hr hy hS H
    refine ⟨fun h => (by rw [h] at hr; cases hr), fun j hj => ?_⟩
    by_cases hji : j = i
    · subst hji
      refine hy.wpOp hi hS ⟨fun _ => hS, ?_⟩
      rw [hli]
      exact H
    · have := ready_mono hj hji
      rw [H.1] at this
      cases this
  | succ fuel ih =>
    intro listed a w hfree hr hy hS H
    refine ⟨fun h => (by rw [h] at hr; cases hr), fun j hj => ?_⟩
    by_cases hji : j = i
    · subst hji
      refine hy.wpOp hi hS ⟨fun _ => hS, ?_⟩
      rw [hli]
      exact H
    · have h1 := H.2 j (ready_mono hj hji)
      obtain ⟨hjun, oj, hoj, hall⟩ := mem_ready.1 hj
      have hnot : ∀ e ∈ oj.after, Region.binds md e = true → e.on ≠ i := fun e he hb heq => by
        have h1 := hall e he hb
        have h0 := (mem_ready.1 hr).1
        rw [heq] at h1
        rcases Nat.lt_or_ge i listed.size with h' | h'
        · simp [h'] at h0 h1; rw [h0] at h1; cases h1
        · simp [Array.getElem?_eq_none h'] at h1
      have hlate : late j = false := by
        rw [Bool.eq_false_iff]
        intro hl9
        obtain ⟨e, he, hb, heq⟩ := hlj j oj hoj hl9
        exact hnot e he hb heq
      rw [hlate] at h1 ⊢
      have h2 := wpOp_putIf hoj (hfree j oj hoj hji hjun hnot) (fun cs b => hsel i oi cs b hi) (fun cs b => hsel j oj cs b hoj) hQ hy h1
      have hfree' : ∀ k ok, ops[k]? = some ok → k ≠ i → (listed.setIfInBounds j true).getD k true = false →
          (∀ e ∈ ok.after, Region.binds md e = true → e.on ≠ i) → oi.apart ops ok = true := fun k ok hk hki hun hno => by
        refine hfree k ok hk hki ?_ hno
        by_cases hjk : j = k
        · subst hjk; exact hjun
        · rw [Go.getD_set_ne true hjk] at hun; exact hun
      refine wpOp_mono (fun a' w' h3 => ⟨h3.2.1, ih (listed.setIfInBounds j true) a' w' hfree' (ready_mono hr (Ne.symm hji)) h3.1 (h3.2.1 rfl) ?_⟩) h2
      rw [Array.setIfInBounds_comm _ _ hji]
      exact h3.2.2

theorem takeL {i : Nat} {oi : Oper} {v : Value} {d : Tmp} {fuel : Nat} {listed : Array Bool} {a : Act} {w : World} (hi : ops[i]? = some oi) (hd : oi.dst = some d)
    (hs : Region.noSelect ops = true) (hf : Region.free md ops listed i = true) (hr : (Region.ready md ops listed).contains i = true) (hl : lateOK md ops late i = true)
    (hQ : ∀ c a w, Q (.panic c) (a.put (some d) v) w → Q (.panic c) a w) (hw : Region.wanted oi (yielded ops a.tmps) = true) (hy : ∀ w, S w → (execOp a.eval oi).run P w = .ok (.value v) w) (hS : S w)
    (h : wpAnyL P md ops Q S late fuel true (listed.setIfInBounds i true) (a.put (some d) v) w) : wpAnyL P md ops Q S late (fuel + 1) true listed a w :=
  wpAnyL_first hi (Region.noSelect_spec hs) (by rw [hd]; exact hQ) hl fuel listed a w (Region.free_spec hi hf) (by simpa using hr) (.inl ⟨hw, hy⟩) hS (by rw [hd]; exact h)
/-- An operation that yields its value in every world may be taken first, late or not. -/
theorem wpAnyL_firstP {i : Nat} {oi : Oper} {v : Value} (hi : ops[i]? = some oi) (hsel : ∀ (j : Nat) (o : Oper) cs b, ops[j]? = some o → o.op ≠ .select cs b)
    (hQ : ∀ c a w, Q (.panic c) (a.put oi.dst v) w → Q (.panic c) a w) (hli : late i = false) :
    ∀ (fuel : Nat) (fr : Bool) (listed : Array Bool) (a : Act) (w : World),
      (∀ j oj, ops[j]? = some oj → j ≠ i → listed.getD j true = false → (∀ e ∈ oj.after, Region.binds md e = true → e.on ≠ i) → oi.apart ops oj = true) →
      i ∈ Region.ready md ops listed → YieldsIf P ops (fun _ => True) oi v a → (fr = true → S w) →
      wpAnyL P md ops Q S late fuel fr (listed.setIfInBounds i true) (a.put oi.dst v) w → wpAnyL P md ops Q S late (fuel + 1) fr listed a w := by
  intro fuel
  induction fuel with
  | zero =>
    intro fr listed a w _ hr hy hS H
    refine ⟨fun h => (by rw [h] at hr; cases hr), fun j hj => ?_⟩
    by_cases hji : j = i
    · subst hji
      refine hy.wpOp hi trivial ⟨fun h => hS (by rw [Bool.and_eq_true] at h; exact h.1), ?_⟩
      rw [hli, Bool.not_false, Bool.and_true]
      exact H
    · have := ready_mono hj hji
      rw [H.1] at this
      cases this
  | succ fuel ih =>
    intro fr listed a w hfree hr hy hS H
    refine ⟨fun h => (by rw [h] at hr; cases hr), fun j hj => ?_⟩
    by_cases hji : j = i
    · subst hji
      refine hy.wpOp hi trivial ⟨fun h => hS (by rw [Bool.and_eq_true] at h; exact h.1), ?_⟩
      rw [hli, Bool.not_false, Bool.and_true]
      exact H
    · have h1 := H.2 j (ready_mono hj hji)
      obtain ⟨hjun, oj, hoj, hall⟩ := mem_ready.1 hj
      have hnot : ∀ e ∈ oj.after, Region.binds md e = true → e.on ≠ i := fun e he hb heq => by
        have h1 := hall e he hb
        have h0 := (mem_ready.1 hr).1
        rw [heq] at h1
        rcases Nat.lt_or_ge i listed.size with h' | h'
        · simp [h'] at h0 h1; rw [h0] at h1; cases h1
        · simp [Array.getElem?_eq_none h'] at h1
      have h2 := wpOp_putIf hoj (hfree j oj hoj hji hjun hnot) (fun cs b => hsel i oi cs b hi) (fun cs b => hsel j oj cs b hoj) hQ hy h1
      have hfree' : ∀ k ok, ops[k]? = some ok → k ≠ i → (listed.setIfInBounds j true).getD k true = false →
          (∀ e ∈ ok.after, Region.binds md e = true → e.on ≠ i) → oi.apart ops ok = true := fun k ok hk hki hun hno => by
        refine hfree k ok hk hki ?_ hno
        by_cases hjk : j = k
        · subst hjk; exact hjun
        · rw [Go.getD_set_ne true hjk] at hun; exact hun
      refine wpOp_mono (fun a' w' h3 => ⟨h3.2.1, ih (fr && !late j) (listed.setIfInBounds j true) a' w' hfree' (ready_mono hr (Ne.symm hji)) h3.1 h3.2.1 ?_⟩) h2
      rw [Array.setIfInBounds_comm _ _ hji]
      exact h3.2.2
theorem takeP {i : Nat} {oi : Oper} {v : Value} {d : Tmp} {fuel : Nat} {fr : Bool} {listed : Array Bool} {a : Act} {w : World} (hi : ops[i]? = some oi) (hd : oi.dst = some d)
    (hs : Region.noSelect ops = true) (hf : Region.free md ops listed i = true) (hr : (Region.ready md ops listed).contains i = true) (hl : late i = false)
    (hQ : ∀ c a w, Q (.panic c) (a.put (some d) v) w → Q (.panic c) a w) (hw : Region.wanted oi (yielded ops a.tmps) = true) (hy : ∀ w, (execOp a.eval oi).run P w = .ok (.value v) w) (hS : fr = true → S w)
    (h : wpAnyL P md ops Q S late fuel fr (listed.setIfInBounds i true) (a.put (some d) v) w) : wpAnyL P md ops Q S late (fuel + 1) fr listed a w :=
  wpAnyL_firstP hi (Region.noSelect_spec hs) (by rw [hd]; exact hQ) hl fuel fr listed a w (Region.free_spec hi hf) (by simpa using hr) (.inl ⟨hw, fun w _ => hy w⟩) hS (by rw [hd]; exact h)
/-- Just one operation may come up. -/
theorem oneL {i : Nat} {oi : Oper} {fuel : Nat} {fr : Bool} {listed : Array Bool} {a : Act} {w : World} (hi : ops[i]? = some oi) (hr : Region.ready md ops listed = [i]) (hg : oi.guard = none)
    (h : oi.wp P a w (fun a' w' => ((fr && !late i) = true → S w') ∧ wpAnyL P md ops Q S late fuel (fr && !late i) (listed.setIfInBounds i true) a' w') Q) : wpAnyL P md ops Q S late (fuel + 1) fr listed a w := by
  refine ⟨fun h0 => by rw [hr] at h0; simp at h0, fun j hj => ?_⟩
  rw [hr] at hj
  obtain rfl : j = i := by simpa using hj
  unfold wpOp
  simp only [hi]
  rw [if_pos (by simp [Region.wanted, hg])]
  exact .inl h
theorem twoL {i j : Nat} {oi oj : Oper} {fuel : Nat} {fr : Bool} {listed : Array Bool} {a : Act} {w : World} (hi : ops[i]? = some oi) (hj : ops[j]? = some oj) (hr : Region.ready md ops listed = [i, j]) (gi : oi.guard = none) (gj : oj.guard = none)
    (h1 : oi.wp P a w (fun a' w' => ((fr && !late i) = true → S w') ∧ wpAnyL P md ops Q S late fuel (fr && !late i) (listed.setIfInBounds i true) a' w') Q) (h2 : oj.wp P a w (fun a' w' => ((fr && !late j) = true → S w') ∧ wpAnyL P md ops Q S late fuel (fr && !late j) (listed.setIfInBounds j true) a' w') Q) : wpAnyL P md ops Q S late (fuel + 1) fr listed a w := by
  refine ⟨fun h0 => by rw [hr] at h0; simp at h0, fun k hk => ?_⟩
  rw [hr] at hk
  rcases (by simpa using hk : k = i ∨ k = j) with rfl | rfl
  · unfold wpOp
    simp only [hi]
    rw [if_pos (by simp [Region.wanted, gi])]
    exact .inl h1
  · unfold wpOp
    simp only [hj]
    rw [if_pos (by simp [Region.wanted, gj])]
    exact .inl h2
theorem doneL {fuel : Nat} {fr : Bool} {listed : Array Bool} {a : Act} {w : World} (hr : Region.ready md ops listed = []) (h : Q .normal a w) : wpAnyL P md ops Q S late fuel fr listed a w := by
  cases fuel with
  | zero => exact ⟨hr, h⟩
  | succ f => exact ⟨fun _ => h, fun i hi => by rw [hr] at hi; cases hi⟩
/-- The region begins. -/
theorem wp_region_late {id : Nat} {a : Act} {w : World} (S : World → Prop) (late : Nat → Bool) (hm : P.follows .mixedOrders = true)
    (h : wpAnyL P .any ops Q S late ops.size true (Array.replicate ops.size false) a w.drew) : (Code.region id ops true).wp P Q a w :=
  wp_region_any hm (wpAny_of_late _ _ _ _ _ h)
/-- Just one operation may come up, and its guard lets it. -/
theorem oneHW {i : Nat} {oi : Oper} {fuel : Nat} {listed : Array Bool} {a : Act} {w : World} (hi : ops[i]? = some oi) (hr : Region.ready md ops listed = [i]) (hw : Region.wanted oi (yielded ops a.tmps) = true)
    (h : oi.wp P a w (fun a' w' => S w' ∧ wpAnyH P md ops Q S fuel (listed.setIfInBounds i true) a' w') Q) : wpAnyH P md ops Q S (fuel + 1) listed a w := by
  refine wpAnyH_all hr (by simp) fun j hj => ?_
  obtain rfl : j = i := by simpa using hj
  unfold wpOp
  simp only [hi]
  rw [if_pos hw]
  exact .inl h
end
end Go.Proofs.YtkgdenbabafeoaaGreatDoor

namespace Go.Proofs.YtkgdenbabafeoaaGreatDoor
set_option maxRecDepth 100000
open Go.ChangeShapes Go.WideShapes Go.ChangeAt Go.RowKit

/-- What sealed answers. -/
def SldP (w : World) (fs : List FileL) (e : Ending) (w' : World) : Prop := ∃ v', e = .returned (.tuple #[.agg #[v'], .bool true]) ∧ DiskR w' v' fs ∧ Below w.heap.size w w'
set_option maxHeartbeats 16000000 in
set_option maxRecDepth 100000 in
theorem sealed_any (T0 : SvS) (vv0 vm0 : Value) (T1 : SvS) (vv1 vm1 : Value) (n2 p : Int) (w : World) (hN0 : i64B T0.step ∧ i64B T0.phase) (hV0 : MlR w vv0 T0.vals) (hM0 : MlR w vm0 T0.mail) (hB0 : SavB T0) (hN1 : i64B T1.step ∧ i64B T1.phase) (hV1 : MlR w vv1 T1.vals) (hM1 : MlR w vm1 T1.mail) (hB1 : SavB T1) (hI2 : i64B n2) (hP : pickF n2 2 = p) (hp2 : p = 0 ∨ p = 1) :
    Calls Tryz.prog 15 #[.agg #[.int .i64 T0.step, .int .i64 T0.phase, .bool T0.fresh, vv0, vm0], .agg #[.int .i64 T1.step, .int .i64 T1.phase, .bool T1.fresh, vv1, vm1], .int .i64 n2] w (SldP w [fS p (kb T0), fS (1 - p) (kb T1)]) := by
  have _u := hP
  clear _u
  have HV0 : Hid (MlR w vv0 T0.vals) := hV0
  have HM0 : Hid (MlR w vm0 T0.mail) := hM0
  obtain ⟨a0, c0, rfl⟩ := hV0.shape
  obtain ⟨b0, d0, rfl⟩ := hM0.shape
  have CK0 : Hid (∀ X, Below w.heap.size w X → Calls Tryz.prog 6 #[.agg #[.int .i64 T0.step, .int .i64 T0.phase, .bool T0.fresh, .slice a0 T0.vals.length c0, .slice b0 T0.mail.length d0]] X (SvkP X (keptS T0))) := fun X h => kept_any T0 _ _ X (HV0.out.below h (Nat.le_refl _)) (HM0.out.below h (Nat.le_refl _)) hN0 hB0
  have hl0 := kb_len T0
  have hcn0 : Hid ((keptS T0).mail.length = min T0.mail.length 20) := kept_count T0
  have HKB0 : Hid (∀ m ∈ (keptS T0).mail, mlB m) := kept_mlB T0
  have HBY0 : Hid (∀ y ∈ kb T0, 0 ≤ y ∧ y ≤ 255) := kb_bytes T0
  have HEN0 : Hid (encS (keptS T0) = (kb T0, 0)) := kept_enc T0
  have HV1 : Hid (MlR w vv1 T1.vals) := hV1
  have HM1 : Hid (MlR w vm1 T1.mail) := hM1
  obtain ⟨a1, c1, rfl⟩ := hV1.shape
  obtain ⟨b1, d1, rfl⟩ := hM1.shape
  have CK1 : Hid (∀ X, Below w.heap.size w X → Calls Tryz.prog 6 #[.agg #[.int .i64 T1.step, .int .i64 T1.phase, .bool T1.fresh, .slice a1 T1.vals.length c1, .slice b1 T1.mail.length d1]] X (SvkP X (keptS T1))) := fun X h => kept_any T1 _ _ X (HV1.out.below h (Nat.le_refl _)) (HM1.out.below h (Nat.le_refl _)) hN1 hB1
  have hl1 := kb_len T1
  have hcn1 : Hid ((keptS T1).mail.length = min T1.mail.length 20) := kept_count T1
  have HKB1 : Hid (∀ m ∈ (keptS T1).mail, mlB m) := kept_mlB T1
  have HBY1 : Hid (∀ y ∈ kb T1, 0 ≤ y ∧ y ≤ 255) := kb_bytes T1
  have HEN1 : Hid (encS (keptS T1) = (kb T1, 0)) := kept_enc T1
  have CP : Hid (∀ X, Calls Tryz.prog 7 #[.int .i64 n2, .int .i64 2] X fun e w' => e = .returned (.int .i64 p) ∧ w' = X) := fun X => by rw [← hP]; exact picked_any _ _ X hI2.1 hI2.2 (by decide) (by decide)
  have CPU : Hid (∀ X u v1 v2, DiskR X u ([]) → MlR X v1 (keptS T0).vals → MlR X v2 (keptS T0).mail → Calls Tryz.prog 10 #[.agg #[u], .agg #[.int .i64 (keptS T0).step, .int .i64 (keptS T0).phase, .bool (keptS T0).fresh, v1, v2]] X (DskP X ([fN (kb T0)], 0))) := fun X u v1 v2 h1 h2 h3 => by have h := ckPut_any u ([]) (keptS T0) v1 v2 X h1 (good_nil) h2 h3 HKB0.out; rwa [HEN0.out, put_0 hl0.2] at h
  have CSE : Hid (∀ X u, DiskR X u ([fN (kb T0)]) → Calls Tryz.prog 11 #[.agg #[u], .int .i64 p] X (DskP X ([fS p (kb T0)], 0))) := fun X u h1 => by have h := ckSeal_any u ([fN (kb T0)]) p X h1 (good1 (good_fN hl0.2 HBY0.out)); rwa [seal_1 hl0.2 hp2] at h
  have CPV : Hid (∀ X u v1 v2, DiskR X u ([fS p (kb T0)]) → MlR X v1 (keptS T1).vals → MlR X v2 (keptS T1).mail → Calls Tryz.prog 10 #[.agg #[u], .agg #[.int .i64 (keptS T1).step, .int .i64 (keptS T1).phase, .bool (keptS T1).fresh, v1, v2]] X (DskP X ([fS p (kb T0), fN (kb T1)], 0))) := fun X u v1 v2 h1 h2 h3 => by have h := ckPut_any u ([fS p (kb T0)]) (keptS T1) v1 v2 X h1 (good1 (good_fS (n := p) hl0.2 HBY0.out)) h2 h3 HKB1.out; rwa [HEN1.out, put_1 hl0.2 hl1.2 hp2] at h
  have CSF : Hid (∀ X u, DiskR X u ([fS p (kb T0), fN (kb T1)]) → Calls Tryz.prog 11 #[.agg #[u], .int .i64 (1 - p)] X (DskP X ([fS p (kb T0), fS (1 - p) (kb T1)], 0))) := fun X u h1 => by have h := ckSeal_any u ([fS p (kb T0), fN (kb T1)]) (1 - p) X h1 (good2 (good_fS (n := p) hl0.2 HBY0.out) (good_fN hl1.2 HBY1.out)); rwa [seal_2 hl0.2 hl1.2 hp2] at h
  have wp1 : IntKind.i64.wrap (1 - p) = 1 - p := wrap_id64 (by omega) (by omega)
  clear hV0 hM0 hN0 hB0 hV1 hM1 hN1 hB1 HEN0 HEN1 HKB0 HKB1 hP hI2 hp2 hl0 hl1 HBY0 HBY1 hcn0 hcn1
  have HEND : Hid (∀ v' w', DiskR w' v' [fS p (kb T0), fS (1 - p) (kb T1)] → Below w.heap.size w w' → SldP w [fS p (kb T0), fS (1 - p) (kb T1)] (.returned (.tuple #[.agg #[v'], .bool true])) w') := fun v' w' h1 h2 => ⟨v', rfl, h1, h2⟩
  generalize SldP w [fS p (kb T0), fS (1 - p) (kb T1)] = PP at *
  generalize kb T0 = kb0 at *
  generalize kb T1 = kb1 at *
  obtain ⟨W0, hW0⟩ : ∃ W0, W0 = ((w.alloc (.cells #[.int .i64 T0.step, .int .i64 T0.phase, .bool T0.fresh, .slice a0 T0.vals.length c0, .slice b0 T0.mail.length d0] 24)).alloc (.cells #[.int .i64 T1.step, .int .i64 T1.phase, .bool T1.fresh, .slice a1 T1.vals.length c1, .slice b1 T1.mail.length d1] 24)).alloc (.cells #[.slice none 0 0] 39) := ⟨_, rfl⟩
  obtain ⟨Q0, Q1, Q2, B0, s1, s2⟩ := boxes3 w #[.int .i64 T0.step, .int .i64 T0.phase, .bool T0.fresh, .slice a0 T0.vals.length c0, .slice b0 T0.mail.length d0] #[.int .i64 T1.step, .int .i64 T1.phase, .bool T1.fresh, .slice a1 T1.vals.length c1, .slice b1 T1.mail.length d1] #[.slice none 0 0] 24 24 39 W0 hW0
  have LB : Hid (Below w.heap.size w W0) := B0
  have X0 : Hid (BX 24 W0 w.heap.size #[.int .i64 T0.step, .int .i64 T0.phase, .bool T0.fresh, .slice a0 T0.vals.length c0, .slice b0 T0.mail.length d0]) := Q0
  have X1 : Hid (BX 24 W0 (w.heap.size + 1) #[.int .i64 T1.step, .int .i64 T1.phase, .bool T1.fresh, .slice a1 T1.vals.length c1, .slice b1 T1.mail.length d1]) := Q1
  have O : Hid (BX 39 W0 (w.heap.size + 2) #[.slice none 0 0]) := Q2
  clear B0 Q0 Q1 Q2
  go_enter Tryz.func15, Tryz.ntmps15
  go_upto_region 1 with fail
  rw [← hW0]
  clear hW0
  go_wp2_with fail
  refine (CP.out _).mono ?_
  rintro e w9 ⟨rfl, e9⟩
  have e9' : W0 = w9 := e9.symm
  subst e9'
  clear e9
  have z0_0 : W0.cell? ⟨w.heap.size, 0, none⟩ = some (.int .i64 T0.step) := X0.out.cell 0
  have z0_1 : W0.cell? ⟨w.heap.size, 1, none⟩ = some (.int .i64 T0.phase) := X0.out.cell 1
  have z0_2 : W0.cell? ⟨w.heap.size, 2, none⟩ = some (.bool T0.fresh) := X0.out.cell 2
  have z0_3 : W0.cell? ⟨w.heap.size, 3, none⟩ = some (.slice a0 T0.vals.length c0) := X0.out.cell 3
  have z0_4 : W0.cell? ⟨w.heap.size, 4, none⟩ = some (.slice b0 T0.mail.length d0) := X0.out.cell 4
  go_wp2_with fail
  refine (CK0.out _ LB.out).mono ?_
  rintro e w2 ⟨v1, v2, rfl, ho1, ho2, hb⟩
  obtain ⟨Sa, Sc, rfl⟩ := (RowK.own encM_len ho1 : MlR w2 v1 (keptS T0).vals).shape
  obtain ⟨Sb, Sd, rfl⟩ := (RowK.own encM_len ho2 : MlR w2 v2 (keptS T0).mail).shape
  have hle := LB.out.size
  replace LB : Hid (Below w.heap.size w w2) := LB.out.trans (hb.mono LB.out.size)
  replace X0 : Hid (BX 24 w2 w.heap.size #[.int .i64 T0.step, .int .i64 T0.phase, .bool T0.fresh, .slice a0 T0.vals.length c0, .slice b0 T0.mail.length d0]) := X0.out.below hb X0.out.lt
  replace X1 : Hid (BX 24 w2 (w.heap.size + 1) #[.int .i64 T1.step, .int .i64 T1.phase, .bool T1.fresh, .slice a1 T1.vals.length c1, .slice b1 T1.mail.length d1]) := X1.out.below hb X1.out.lt
  replace O : Hid (BX 39 w2 (w.heap.size + 2) #[.slice none 0 0]) := O.out.below hb O.out.lt
  have SV : Hid (w2.ownsRow w.heap.size 53 2 (.slice Sa (keptS T0).vals.length Sc) (keptS T0).vals.length ((keptS T0).vals.flatMap encM)) := own_lower ho1 hle
  have SM : Hid (w2.ownsRow w.heap.size 62 2 (.slice Sb (keptS T0).mail.length Sd) (keptS T0).mail.length ((keptS T0).mail.flatMap encM)) := own_lower ho2 hle
  clear ho1 ho2 hb hle
  clear z0_0 z0_1 z0_2 z0_3 z0_4
  have DN : Hid (DiskR w2 (.slice none 0 0) []) := diskR_nil _
  go_wp2_with fail
  refine (CPU.out _ _ _ _ DN.out (RowK.own encM_len SV.out) (RowK.own encM_len SM.out)).mono ?_
  rintro e w3 ⟨v', rfl, hd, hb⟩
  obtain ⟨D1a, D1c, rfl⟩ : ∃ a c, v' = .slice a ([fN kb0]).length c := by obtain ⟨a, c, e, _⟩ := hd; exact ⟨a, c, e⟩
  replace LB : Hid (Below w.heap.size w w3) := LB.out.trans (hb.mono LB.out.size)
  replace X0 : Hid (BX 24 w3 w.heap.size #[.int .i64 T0.step, .int .i64 T0.phase, .bool T0.fresh, .slice a0 T0.vals.length c0, .slice b0 T0.mail.length d0]) := X0.out.below hb X0.out.lt
  replace X1 : Hid (BX 24 w3 (w.heap.size + 1) #[.int .i64 T1.step, .int .i64 T1.phase, .bool T1.fresh, .slice a1 T1.vals.length c1, .slice b1 T1.mail.length d1]) := X1.out.below hb X1.out.lt
  replace O : Hid (BX 39 w3 (w.heap.size + 2) #[.slice none 0 0]) := O.out.below hb O.out.lt
  replace SV : Hid (w3.ownsRow w.heap.size 53 2 (.slice Sa (keptS T0).vals.length Sc) (keptS T0).vals.length ((keptS T0).vals.flatMap encM)) := own_below SV.out hb (Nat.le_refl _)
  replace SM : Hid (w3.ownsRow w.heap.size 62 2 (.slice Sb (keptS T0).mail.length Sd) (keptS T0).mail.length ((keptS T0).mail.flatMap encM)) := own_below SM.out hb (Nat.le_refl _)
  have D1 : Hid (DiskR w3 (.slice D1a ([fN kb0]).length D1c) ([fN kb0])) := hd
  clear hd hb
  clear DN
  clear SV
  clear SM
  have L9 := LB.out.size
  have M9_X0 := X0.out.lt
  have M9_X1 := X1.out.lt
  have M9_O := O.out.lt
  replace LB : Hid (Below w.heap.size w (w3.alloc (.cells #[.slice D1a ([fN kb0] : List FileL).length D1c] 39))) := LB.out.alloc LB.out.size _
  replace X0 : Hid (BX 24 (w3.alloc (.cells #[.slice D1a ([fN kb0] : List FileL).length D1c] 39)) w.heap.size #[.int .i64 T0.step, .int .i64 T0.phase, .bool T0.fresh, .slice a0 T0.vals.length c0, .slice b0 T0.mail.length d0]) := X0.out.below (below_alloc _ _) X0.out.lt
  replace X1 : Hid (BX 24 (w3.alloc (.cells #[.slice D1a ([fN kb0] : List FileL).length D1c] 39)) (w.heap.size + 1) #[.int .i64 T1.step, .int .i64 T1.phase, .bool T1.fresh, .slice a1 T1.vals.length c1, .slice b1 T1.mail.length d1]) := X1.out.below (below_alloc _ _) X1.out.lt
  replace O : Hid (BX 39 (w3.alloc (.cells #[.slice D1a ([fN kb0] : List FileL).length D1c] 39)) (w.heap.size + 2) #[.slice none 0 0]) := O.out.below (below_alloc _ _) O.out.lt
  replace D1 : Hid (DiskR (w3.alloc (.cells #[.slice D1a ([fN kb0] : List FileL).length D1c] 39)) (.slice D1a ([fN kb0]).length D1c) ([fN kb0])) := D1.out.below (below_alloc _ _) (Nat.le_refl _)
  have D : Hid (BX 39 (w3.alloc (.cells #[.slice D1a ([fN kb0] : List FileL).length D1c] 39)) w3.heap.size #[.slice D1a ([fN kb0] : List FileL).length D1c]) := BX.new _ _ _
  have l_q3 : w.heap.size ≤ w3.heap.size := L9
  clear L9
  have n_X0_q3 : w.heap.size < w3.heap.size := M9_X0
  clear M9_X0
  have n_X1_q3 : (w.heap.size + 1) < w3.heap.size := M9_X1
  clear M9_X1
  have n_O_q3 : (w.heap.size + 2) < w3.heap.size := M9_O
  clear M9_O
  go_upto_region 3 with fail
  generalize w3.alloc (.cells #[.slice D1a ([fN kb0] : List FileL).length D1c] 39) = w3n at *
  generalize w3.heap.size = q3 at *
  have z1_0 : w3n.cell? ⟨q3, 0, none⟩ = some (.slice D1a ([fN kb0] : List FileL).length D1c) := D.out.cell 0
  go_wp2_with fail
  refine (CSE.out _ _ D1.out).mono ?_
  rintro e w4 ⟨v', rfl, hd, hb⟩
  obtain ⟨D2a, D2c, rfl⟩ : ∃ a c, v' = .slice a ([fS p kb0]).length c := by obtain ⟨a, c, e, _⟩ := hd; exact ⟨a, c, e⟩
  replace LB : Hid (Below w.heap.size w w4) := LB.out.trans (hb.mono LB.out.size)
  replace X0 : Hid (BX 24 w4 w.heap.size #[.int .i64 T0.step, .int .i64 T0.phase, .bool T0.fresh, .slice a0 T0.vals.length c0, .slice b0 T0.mail.length d0]) := X0.out.below hb X0.out.lt
  replace X1 : Hid (BX 24 w4 (w.heap.size + 1) #[.int .i64 T1.step, .int .i64 T1.phase, .bool T1.fresh, .slice a1 T1.vals.length c1, .slice b1 T1.mail.length d1]) := X1.out.below hb X1.out.lt
  replace O : Hid (BX 39 w4 (w.heap.size + 2) #[.slice none 0 0]) := O.out.below hb O.out.lt
  replace D1 : Hid (DiskR w4 (.slice D1a ([fN kb0]).length D1c) ([fN kb0])) := D1.out.below hb (Nat.le_refl _)
  replace D : Hid (BX 39 w4 q3 #[.slice D1a ([fN kb0] : List FileL).length D1c]) := D.out.below hb D.out.lt
  have D2 : Hid (DiskR w4 (.slice D2a ([fS p kb0]).length D2c) ([fS p kb0])) := hd
  clear hd hb
  clear z1_0
  have z2_0 : w4.cell? ⟨q3, 0, none⟩ = some (.slice D1a ([fN kb0] : List FileL).length D1c) := D.out.cell 0
  have y3_0 : w4.frozen? ⟨q3, 0, none⟩ = false := D.out.frozen 0
  have D_old := D.out
  replace LB : Hid (Below w.heap.size w (w4.setCell ⟨q3, 0, none⟩ (.slice D2a ([fS p kb0] : List FileL).length D2c))) := LB.out.setCell (show w.heap.size ≤ q3 by omega) _
  replace X0 : Hid (BX 24 (w4.setCell ⟨q3, 0, none⟩ (.slice D2a ([fS p kb0] : List FileL).length D2c)) w.heap.size #[.int .i64 T0.step, .int .i64 T0.phase, .bool T0.fresh, .slice a0 T0.vals.length c0, .slice b0 T0.mail.length d0]) := X0.out.other (by omega)
  replace X1 : Hid (BX 24 (w4.setCell ⟨q3, 0, none⟩ (.slice D2a ([fS p kb0] : List FileL).length D2c)) (w.heap.size + 1) #[.int .i64 T1.step, .int .i64 T1.phase, .bool T1.fresh, .slice a1 T1.vals.length c1, .slice b1 T1.mail.length d1]) := X1.out.other (by omega)
  replace O : Hid (BX 39 (w4.setCell ⟨q3, 0, none⟩ (.slice D2a ([fS p kb0] : List FileL).length D2c)) (w.heap.size + 2) #[.slice none 0 0]) := O.out.other (by omega)
  replace D1 : Hid (DiskR (w4.setCell ⟨q3, 0, none⟩ (.slice D2a ([fS p kb0] : List FileL).length D2c)) (.slice D1a ([fN kb0]).length D1c) ([fN kb0])) := D1.out.setBox D_old
  replace D : Hid (BX 39 (w4.setCell ⟨q3, 0, none⟩ (.slice D2a ([fS p kb0] : List FileL).length D2c)) q3 #[.slice D2a ([fS p kb0] : List FileL).length D2c]) := D.out.set 0 _
  replace D2 : Hid (DiskR (w4.setCell ⟨q3, 0, none⟩ (.slice D2a ([fS p kb0] : List FileL).length D2c)) (.slice D2a ([fS p kb0]).length D2c) ([fS p kb0])) := D2.out.setBox D_old
  clear D_old
  go_upto_region 4 with fail
  generalize w4.setCell ⟨q3, 0, none⟩ (.slice D2a ([fS p kb0] : List FileL).length D2c) = w4s at *
  clear z2_0 y3_0
  clear D1
  have eA : ∀ args w, (callFunc 6 args).run Tryz.prog w = .ok (.enter 6 args) w := enters_of Tryz.func6 (by kernel_rfl) rfl
  have eF : ∀ args w, (callFunc 10 args).run Tryz.prog w = .ok (.enter 10 args) w := enters_of Tryz.func10 (by kernel_rfl) rfl
  have z4_0 : w4s.cell? ⟨q3, 0, none⟩ = some (.slice D2a ([fS p kb0] : List FileL).length D2c) := D.out.cell 0
  have z5_0 : w4s.cell? ⟨(w.heap.size + 1), 0, none⟩ = some (.int .i64 T1.step) := X1.out.cell 0
  have z5_1 : w4s.cell? ⟨(w.heap.size + 1), 1, none⟩ = some (.int .i64 T1.phase) := X1.out.cell 1
  have z5_2 : w4s.cell? ⟨(w.heap.size + 1), 2, none⟩ = some (.bool T1.fresh) := X1.out.cell 2
  have z5_3 : w4s.cell? ⟨(w.heap.size + 1), 3, none⟩ = some (.slice a1 T1.vals.length c1) := X1.out.cell 3
  have z5_4 : w4s.cell? ⟨(w.heap.size + 1), 4, none⟩ = some (.slice b1 T1.mail.length d1) := X1.out.cell 4
  have BD : Below w4s.heap.size w4s w4s.drew := (Below.refl _ _).drew
  have KS : Hid (∀ V, Below w4s.heap.size w4s V → V.cell? ⟨q3, 0, none⟩ = some (.slice D2a ([fS p kb0] : List FileL).length D2c) ∧ BX 24 V (w.heap.size + 1) #[.int .i64 T1.step, .int .i64 T1.phase, .bool T1.fresh, .slice a1 T1.vals.length c1, .slice b1 T1.mail.length d1]) := fun V h => ⟨(D.out.below h D.out.lt).cell 0, X1.out.below h X1.out.lt⟩
  replace LB : Hid (Below w.heap.size w w4s.drew) := LB.out.trans (BD.mono LB.out.size)
  replace X0 : Hid (BX 24 w4s.drew w.heap.size #[.int .i64 T0.step, .int .i64 T0.phase, .bool T0.fresh, .slice a0 T0.vals.length c0, .slice b0 T0.mail.length d0]) := X0.out.below BD X0.out.lt
  replace X1 : Hid (BX 24 w4s.drew (w.heap.size + 1) #[.int .i64 T1.step, .int .i64 T1.phase, .bool T1.fresh, .slice a1 T1.vals.length c1, .slice b1 T1.mail.length d1]) := X1.out.below BD X1.out.lt
  replace O : Hid (BX 39 w4s.drew (w.heap.size + 2) #[.slice none 0 0]) := O.out.below BD O.out.lt
  replace D : Hid (BX 39 w4s.drew q3 #[.slice D2a ([fS p kb0] : List FileL).length D2c]) := D.out.below BD D.out.lt
  replace D2 : Hid (DiskR w4s.drew (.slice D2a ([fS p kb0]).length D2c) ([fS p kb0])) := D2.out.below BD (Nat.le_refl _)
  refine wp_region_late (fun V => V.cell? ⟨q3, 0, none⟩ = some (.slice D2a ([fS p kb0] : List FileL).length D2c) ∧ BX 24 V (w.heap.size + 1) #[.int .i64 T1.step, .int .i64 T1.phase, .bool T1.fresh, .slice a1 T1.vals.length c1, .slice b1 T1.mail.length d1]) (fun j => j == 7) (by kernel_rfl) ?_
  simp only [List.size_toArray, List.length_cons, List.length_nil, Nat.reduceAdd]
  refine takeL (i := 0) (v := .agg #[.slice D2a ([fS p kb0] : List FileL).length D2c]) (d := 30) rfl rfl (by kernel_rfl) (by kernel_rfl) (by kernel_rfl) (by kernel_rfl) (fun _ _ _ h => h) (by rfl) (fun V hV => by obtain ⟨v1, v2⟩ := hV; have u0 := v2.cell 0; have u1 := v2.cell 1; have u2 := v2.cell 2; have u3 := v2.cell 3; have u4 := v2.cell 4; simp at u0 u1 u2 u3 u4; go_simp) (KS.out _ BD) ?_
  simp only [Act.put, List.setIfInBounds_toArray, List.set_cons_zero, List.set_cons_succ]
  refine takeL (i := 1) (v := .agg #[.int .i64 T1.step, .int .i64 T1.phase, .bool T1.fresh, .slice a1 T1.vals.length c1, .slice b1 T1.mail.length d1]) (d := 31) rfl rfl (by kernel_rfl) (by kernel_rfl) (by kernel_rfl) (by kernel_rfl) (fun _ _ _ h => h) (by rfl) (fun V hV => by obtain ⟨v1, v2⟩ := hV; have u0 := v2.cell 0; have u1 := v2.cell 1; have u2 := v2.cell 2; have u3 := v2.cell 3; have u4 := v2.cell 4; simp at u0 u1 u2 u3 u4; go_simp) (KS.out _ BD) ?_
  simp only [Act.put, List.setIfInBounds_toArray, List.set_cons_zero, List.set_cons_succ]
  refine oneL (i := 2) rfl (by kernel_rfl) rfl (call_gets (R := fun v w' => ∃ v1 v2, v = .agg #[.int .i64 (keptS T1).step, .int .i64 (keptS T1).phase, .bool (keptS T1).fresh, v1, v2] ∧ w'.ownsRow w4s.drew.heap.size 53 2 v1 (keptS T1).vals.length ((keptS T1).vals.flatMap encM) ∧ w'.ownsRow w4s.drew.heap.size 62 2 v2 (keptS T1).mail.length ((keptS T1).mail.flatMap encM) ∧ Below w4s.drew.heap.size w4s.drew w') (d := 32) (f := 6) (xs := #[.tmp 31]) (ats := #[24]) rfl rfl eA (vs := #[.agg #[.int .i64 T1.step, .int .i64 T1.phase, .bool T1.fresh, .slice a1 T1.vals.length c1, .slice b1 T1.mail.length d1]]) (by simp [Act.eval]) ((CK1.out _ LB.out).mono fun e w' h => by obtain ⟨v1, v2, h1, h2, h3, h4⟩ := h; exact ⟨_, h1, v1, v2, rfl, h2, h3, h4⟩) ?_)
  rintro v wA ⟨v1, v2, rfl, ho1, ho2, hb⟩
  have BA : Below w4s.heap.size w4s wA := BD.trans (hb.mono BD.size)
  obtain ⟨Ra, Rc, rfl⟩ := (RowK.own encM_len ho1 : MlR wA v1 (keptS T1).vals).shape
  obtain ⟨Rb, Rd, rfl⟩ := (RowK.own encM_len ho2 : MlR wA v2 (keptS T1).mail).shape
  have hle := LB.out.size
  replace LB : Hid (Below w.heap.size w wA) := LB.out.trans (hb.mono LB.out.size)
  replace X0 : Hid (BX 24 wA w.heap.size #[.int .i64 T0.step, .int .i64 T0.phase, .bool T0.fresh, .slice a0 T0.vals.length c0, .slice b0 T0.mail.length d0]) := X0.out.below hb X0.out.lt
  replace X1 : Hid (BX 24 wA (w.heap.size + 1) #[.int .i64 T1.step, .int .i64 T1.phase, .bool T1.fresh, .slice a1 T1.vals.length c1, .slice b1 T1.mail.length d1]) := X1.out.below hb X1.out.lt
  replace O : Hid (BX 39 wA (w.heap.size + 2) #[.slice none 0 0]) := O.out.below hb O.out.lt
  replace D : Hid (BX 39 wA q3 #[.slice D2a ([fS p kb0] : List FileL).length D2c]) := D.out.below hb D.out.lt
  replace D2 : Hid (DiskR wA (.slice D2a ([fS p kb0]).length D2c) ([fS p kb0])) := D2.out.below hb (Nat.le_refl _)
  have RV : Hid (wA.ownsRow w.heap.size 53 2 (.slice Ra (keptS T1).vals.length Rc) (keptS T1).vals.length ((keptS T1).vals.flatMap encM)) := own_lower ho1 hle
  have RM : Hid (wA.ownsRow w.heap.size 62 2 (.slice Rb (keptS T1).mail.length Rd) (keptS T1).mail.length ((keptS T1).mail.flatMap encM)) := own_lower ho2 hle
  clear ho1 ho2 hb hle
  refine ⟨fun _ => KS.out _ BA, ?_⟩
  simp only [Act.put, List.setIfInBounds_toArray, List.set_cons_zero, List.set_cons_succ]
  show wpAnyL _ _ _ _ _ _ _ true _ _ _
  refine oneL (i := 3) rfl (by kernel_rfl) rfl (call_gets (R := fun v w' => ∃ v', v = .tuple #[.agg #[v'], .int .i64 0] ∧ DiskR w' v' ([fS p kb0, fN kb1]) ∧ Below wA.heap.size wA w') (d := 33) (f := 10) (xs := #[.tmp 30, .tmp 32]) (ats := #[39, 28]) rfl rfl eF (vs := #[.agg #[.slice D2a ([fS p kb0] : List FileL).length D2c], .agg #[.int .i64 (keptS T1).step, .int .i64 (keptS T1).phase, .bool (keptS T1).fresh, .slice Ra (keptS T1).vals.length Rc, .slice Rb (keptS T1).mail.length Rd]]) (by simp [Act.eval]) ((CPV.out _ _ _ _ D2.out (RowK.own encM_len RV.out) (RowK.own encM_len RM.out)).mono fun e w' h => by obtain ⟨v', h1, h2, h3⟩ := h; exact ⟨_, h1, v', rfl, h2, h3⟩) ?_)
  rintro v wF5 ⟨v', rfl, hd, hb⟩
  have BF : Below w4s.heap.size w4s wF5 := BA.trans (hb.mono BA.size)
  obtain ⟨D3a, D3c, rfl⟩ : ∃ a c, v' = .slice a ([fS p kb0, fN kb1]).length c := by obtain ⟨a, c, e, _⟩ := hd; exact ⟨a, c, e⟩
  replace LB : Hid (Below w.heap.size w wF5) := LB.out.trans (hb.mono LB.out.size)
  replace X0 : Hid (BX 24 wF5 w.heap.size #[.int .i64 T0.step, .int .i64 T0.phase, .bool T0.fresh, .slice a0 T0.vals.length c0, .slice b0 T0.mail.length d0]) := X0.out.below hb X0.out.lt
  replace X1 : Hid (BX 24 wF5 (w.heap.size + 1) #[.int .i64 T1.step, .int .i64 T1.phase, .bool T1.fresh, .slice a1 T1.vals.length c1, .slice b1 T1.mail.length d1]) := X1.out.below hb X1.out.lt
  replace O : Hid (BX 39 wF5 (w.heap.size + 2) #[.slice none 0 0]) := O.out.below hb O.out.lt
  replace D : Hid (BX 39 wF5 q3 #[.slice D2a ([fS p kb0] : List FileL).length D2c]) := D.out.below hb D.out.lt
  replace D2 : Hid (DiskR wF5 (.slice D2a ([fS p kb0]).length D2c) ([fS p kb0])) := D2.out.below hb (Nat.le_refl _)
  replace RV : Hid (wF5.ownsRow w.heap.size 53 2 (.slice Ra (keptS T1).vals.length Rc) (keptS T1).vals.length ((keptS T1).vals.flatMap encM)) := own_below RV.out hb (Nat.le_refl _)
  replace RM : Hid (wF5.ownsRow w.heap.size 62 2 (.slice Rb (keptS T1).mail.length Rd) (keptS T1).mail.length ((keptS T1).mail.flatMap encM)) := own_below RM.out hb (Nat.le_refl _)
  have D3 : Hid (DiskR wF5 (.slice D3a ([fS p kb0, fN kb1]).length D3c) ([fS p kb0, fN kb1])) := hd
  clear hd hb
  refine ⟨fun _ => KS.out _ BF, ?_⟩
  simp only [Act.put, List.setIfInBounds_toArray, List.set_cons_zero, List.set_cons_succ]
  show wpAnyL _ _ _ _ _ _ _ true _ _ _
  refine takeL (i := 4) (v := .tuple #[.agg #[.slice D3a ([fS p kb0, fN kb1]).length D3c], .int .i64 0]) (d := 29) rfl rfl (by kernel_rfl) (by kernel_rfl) (by kernel_rfl) (by kernel_rfl) (fun _ _ _ h => h) (by rfl) (fun V hV => by obtain ⟨v1, v2⟩ := hV; have u0 := v2.cell 0; have u1 := v2.cell 1; have u2 := v2.cell 2; have u3 := v2.cell 3; have u4 := v2.cell 4; simp at u0 u1 u2 u3 u4; go_simp) (KS.out _ BF) ?_
  simp only [Act.put, List.setIfInBounds_toArray, List.set_cons_zero, List.set_cons_succ]
  refine takeL (i := 5) (v := .agg #[.slice D3a ([fS p kb0, fN kb1]).length D3c]) (d := 34) rfl rfl (by kernel_rfl) (by kernel_rfl) (by kernel_rfl) (by kernel_rfl) (fun _ _ _ h => h) (by rfl) (fun V hV => by obtain ⟨v1, v2⟩ := hV; have u0 := v2.cell 0; have u1 := v2.cell 1; have u2 := v2.cell 2; have u3 := v2.cell 3; have u4 := v2.cell 4; simp at u0 u1 u2 u3 u4; go_simp) (KS.out _ BF) ?_
  simp only [Act.put, List.setIfInBounds_toArray, List.set_cons_zero, List.set_cons_succ]
  refine takeP (i := 6) (v := .int .i64 0) (d := 35) rfl rfl (by kernel_rfl) (by kernel_rfl) (by kernel_rfl) rfl (fun _ _ _ h => h) (by rfl) (fun V => by go_simp) (fun _ => KS.out _ BF) ?_
  simp only [Act.put, List.setIfInBounds_toArray, List.set_cons_zero, List.set_cons_succ]
  clear z4_0 z5_0 z5_1 z5_2 z5_3 z5_4
  have z6_0 : wF5.cell? ⟨q3, 0, none⟩ = some (.slice D2a ([fS p kb0] : List FileL).length D2c) := D.out.cell 0
  have y7_0 : wF5.frozen? ⟨q3, 0, none⟩ = false := D.out.frozen 0
  refine oneL (i := 7) rfl (by kernel_rfl) rfl (op_skip (w' := wF5.setCell ⟨q3, 0, none⟩ (.slice D3a ([fS p kb0, fN kb1]).length D3c)) rfl (by go_simp) ⟨fun h9 => (by cases h9), ?_⟩)
  refine oneL (i := 8) rfl (by kernel_rfl) rfl (op_run (d := 12) (v' := .int .i64 0) (w' := wF5.setCell ⟨q3, 0, none⟩ (.slice D3a ([fS p kb0, fN kb1]).length D3c)) rfl (by go_simp) ⟨fun h9 => (by cases h9), ?_⟩)
  simp only [Act.put, List.setIfInBounds_toArray, List.set_cons_zero, List.set_cons_succ]
  refine doneL (by kernel_rfl) ?_
  clear z6_0 y7_0 KS BF
  have D_old := D.out
  replace LB : Hid (Below w.heap.size w (wF5.setCell ⟨q3, 0, none⟩ (.slice D3a ([fS p kb0, fN kb1]).length D3c))) := LB.out.setCell (show w.heap.size ≤ q3 by omega) _
  replace X0 : Hid (BX 24 (wF5.setCell ⟨q3, 0, none⟩ (.slice D3a ([fS p kb0, fN kb1]).length D3c)) w.heap.size #[.int .i64 T0.step, .int .i64 T0.phase, .bool T0.fresh, .slice a0 T0.vals.length c0, .slice b0 T0.mail.length d0]) := X0.out.other (by omega)
  replace X1 : Hid (BX 24 (wF5.setCell ⟨q3, 0, none⟩ (.slice D3a ([fS p kb0, fN kb1]).length D3c)) (w.heap.size + 1) #[.int .i64 T1.step, .int .i64 T1.phase, .bool T1.fresh, .slice a1 T1.vals.length c1, .slice b1 T1.mail.length d1]) := X1.out.other (by omega)
  replace O : Hid (BX 39 (wF5.setCell ⟨q3, 0, none⟩ (.slice D3a ([fS p kb0, fN kb1]).length D3c)) (w.heap.size + 2) #[.slice none 0 0]) := O.out.other (by omega)
  replace D : Hid (BX 39 (wF5.setCell ⟨q3, 0, none⟩ (.slice D3a ([fS p kb0, fN kb1]).length D3c)) q3 #[.slice D3a ([fS p kb0, fN kb1]).length D3c]) := D.out.set 0 _
  replace D2 : Hid (DiskR (wF5.setCell ⟨q3, 0, none⟩ (.slice D3a ([fS p kb0, fN kb1]).length D3c)) (.slice D2a ([fS p kb0]).length D2c) ([fS p kb0])) := D2.out.setBox D_old
  replace RV : Hid ((wF5.setCell ⟨q3, 0, none⟩ (.slice D3a ([fS p kb0, fN kb1]).length D3c)).ownsRow w.heap.size 53 2 (.slice Ra (keptS T1).vals.length Rc) (keptS T1).vals.length ((keptS T1).vals.flatMap encM)) := D_old.own RV.out (by decide)
  replace RM : Hid ((wF5.setCell ⟨q3, 0, none⟩ (.slice D3a ([fS p kb0, fN kb1]).length D3c)).ownsRow w.heap.size 62 2 (.slice Rb (keptS T1).mail.length Rd) (keptS T1).mail.length ((keptS T1).mail.flatMap encM)) := D_old.own RM.out (by decide)
  replace D3 : Hid (DiskR (wF5.setCell ⟨q3, 0, none⟩ (.slice D3a ([fS p kb0, fN kb1]).length D3c)) (.slice D3a ([fS p kb0, fN kb1]).length D3c) ([fS p kb0, fN kb1])) := D3.out.setBox D_old
  clear D_old
  generalize wF5.setCell ⟨q3, 0, none⟩ (.slice D3a ([fS p kb0, fN kb1]).length D3c) = w5 at *
  try clear BD
  go_upto_region 5 with fail
  try clear BA
  clear RV
  clear RM
  clear D2
  have z8_0 : w5.cell? ⟨q3, 0, none⟩ = some (.slice D3a ([fS p kb0, fN kb1]).length D3c) := D.out.cell 0
  go_wp2_with fail
  refine (CSF.out _ _ D3.out).mono ?_
  rintro e w6 ⟨v', rfl, hd, hb⟩
  obtain ⟨D4a, D4c, rfl⟩ : ∃ a c, v' = .slice a ([fS p kb0, fS (1 - p) kb1]).length c := by obtain ⟨a, c, e, _⟩ := hd; exact ⟨a, c, e⟩
  replace LB : Hid (Below w.heap.size w w6) := LB.out.trans (hb.mono LB.out.size)
  replace X0 : Hid (BX 24 w6 w.heap.size #[.int .i64 T0.step, .int .i64 T0.phase, .bool T0.fresh, .slice a0 T0.vals.length c0, .slice b0 T0.mail.length d0]) := X0.out.below hb X0.out.lt
  replace X1 : Hid (BX 24 w6 (w.heap.size + 1) #[.int .i64 T1.step, .int .i64 T1.phase, .bool T1.fresh, .slice a1 T1.vals.length c1, .slice b1 T1.mail.length d1]) := X1.out.below hb X1.out.lt
  replace O : Hid (BX 39 w6 (w.heap.size + 2) #[.slice none 0 0]) := O.out.below hb O.out.lt
  replace D : Hid (BX 39 w6 q3 #[.slice D3a ([fS p kb0, fN kb1]).length D3c]) := D.out.below hb D.out.lt
  replace D3 : Hid (DiskR w6 (.slice D3a ([fS p kb0, fN kb1]).length D3c) ([fS p kb0, fN kb1])) := D3.out.below hb (Nat.le_refl _)
  have D4 : Hid (DiskR w6 (.slice D4a ([fS p kb0, fS (1 - p) kb1]).length D4c) ([fS p kb0, fS (1 - p) kb1])) := hd
  clear hd hb
  clear z8_0
  have z9_0 : w6.cell? ⟨q3, 0, none⟩ = some (.slice D3a ([fS p kb0, fN kb1]).length D3c) := D.out.cell 0
  have y10_0 : w6.frozen? ⟨q3, 0, none⟩ = false := D.out.frozen 0
  have D_old := D.out
  replace LB : Hid (Below w.heap.size w (w6.setCell ⟨q3, 0, none⟩ (.slice D4a ([fS p kb0, fS (1 - p) kb1] : List FileL).length D4c))) := LB.out.setCell (show w.heap.size ≤ q3 by omega) _
  replace X0 : Hid (BX 24 (w6.setCell ⟨q3, 0, none⟩ (.slice D4a ([fS p kb0, fS (1 - p) kb1] : List FileL).length D4c)) w.heap.size #[.int .i64 T0.step, .int .i64 T0.phase, .bool T0.fresh, .slice a0 T0.vals.length c0, .slice b0 T0.mail.length d0]) := X0.out.other (by omega)
  replace X1 : Hid (BX 24 (w6.setCell ⟨q3, 0, none⟩ (.slice D4a ([fS p kb0, fS (1 - p) kb1] : List FileL).length D4c)) (w.heap.size + 1) #[.int .i64 T1.step, .int .i64 T1.phase, .bool T1.fresh, .slice a1 T1.vals.length c1, .slice b1 T1.mail.length d1]) := X1.out.other (by omega)
  replace O : Hid (BX 39 (w6.setCell ⟨q3, 0, none⟩ (.slice D4a ([fS p kb0, fS (1 - p) kb1] : List FileL).length D4c)) (w.heap.size + 2) #[.slice none 0 0]) := O.out.other (by omega)
  replace D : Hid (BX 39 (w6.setCell ⟨q3, 0, none⟩ (.slice D4a ([fS p kb0, fS (1 - p) kb1] : List FileL).length D4c)) q3 #[.slice D4a ([fS p kb0, fS (1 - p) kb1] : List FileL).length D4c]) := D.out.set 0 _
  replace D3 : Hid (DiskR (w6.setCell ⟨q3, 0, none⟩ (.slice D4a ([fS p kb0, fS (1 - p) kb1] : List FileL).length D4c)) (.slice D3a ([fS p kb0, fN kb1]).length D3c) ([fS p kb0, fN kb1])) := D3.out.setBox D_old
  replace D4 : Hid (DiskR (w6.setCell ⟨q3, 0, none⟩ (.slice D4a ([fS p kb0, fS (1 - p) kb1] : List FileL).length D4c)) (.slice D4a ([fS p kb0, fS (1 - p) kb1]).length D4c) ([fS p kb0, fS (1 - p) kb1])) := D4.out.setBox D_old
  clear D_old
  go_upto_region 6 with fail
  generalize w6.setCell ⟨q3, 0, none⟩ (.slice D4a ([fS p kb0, fS (1 - p) kb1] : List FileL).length D4c) = w6s at *
  clear z9_0 y10_0
  clear D3
  have z11_0 : w6s.cell? ⟨q3, 0, none⟩ = some (.slice D4a ([fS p kb0, fS (1 - p) kb1] : List FileL).length D4c) := D.out.cell 0
  have z12_0 : w6s.cell? ⟨(w.heap.size + 2), 0, none⟩ = some (.slice none 0 0) := O.out.cell 0
  have y13_0 : w6s.frozen? ⟨(w.heap.size + 2), 0, none⟩ = false := O.out.frozen 0
  have HS0 : Hid (w6s.drew.cell? ⟨q3, 0, none⟩ = some (.slice D4a ([fS p kb0, fS (1 - p) kb1] : List FileL).length D4c)) := D.out.cell 0
  have HS1 : Hid ((w6s.drew.setCell ⟨w.heap.size + 2, 0, none⟩ (.slice D4a ([fS p kb0, fS (1 - p) kb1] : List FileL).length D4c)).cell? ⟨q3, 0, none⟩ = some (.slice D4a ([fS p kb0, fS (1 - p) kb1] : List FileL).length D4c)) := (D.out.other (show q3 ≠ w.heap.size + 2 by omega)).cell 0
  refine wp_region_held (S := fun V => V.cell? ⟨q3, 0, none⟩ = some (.slice D4a ([fS p kb0, fS (1 - p) kb1] : List FileL).length D4c)) (by kernel_rfl) ?_
  simp only [List.size_toArray, List.length_cons, List.length_nil, Nat.reduceAdd]
  refine takeH (i := 0) (v := .agg #[.slice D4a ([fS p kb0, fS (1 - p) kb1] : List FileL).length D4c]) (d := 43) rfl rfl (by kernel_rfl) (by kernel_rfl) (by kernel_rfl) (fun _ _ _ h => h) (by rfl) (fun V hV => by have _ := hV; go_simp) HS0.out ?_
  simp only [Act.put, List.setIfInBounds_toArray, List.set_cons_zero, List.set_cons_succ]
  refine takeH (i := 1) (v := .int .i64 0) (d := 44) rfl rfl (by kernel_rfl) (by kernel_rfl) (by kernel_rfl) (fun _ _ _ h => h) (by rfl) (fun V hV => by have _ := hV; go_simp) HS0.out ?_
  simp only [Act.put, List.setIfInBounds_toArray, List.set_cons_zero, List.set_cons_succ]
  refine takeH (i := 2) (v := .bool true) (d := 45) rfl rfl (by kernel_rfl) (by kernel_rfl) (by kernel_rfl) (fun _ _ _ h => h) (by rfl) (fun V hV => by have _ := hV; go_simp) HS0.out ?_
  simp only [Act.put, List.setIfInBounds_toArray, List.set_cons_zero, List.set_cons_succ]
  refine takeH (i := 3) (v := .bool true) (d := 46) rfl rfl (by kernel_rfl) (by kernel_rfl) (by kernel_rfl) (fun _ _ _ h => h) (by rfl) (fun V hV => by have _ := hV; go_simp) HS0.out ?_
  simp only [Act.put, List.setIfInBounds_toArray, List.set_cons_zero, List.set_cons_succ]
  refine takeH (i := 4) (v := .int .i64 0) (d := 47) rfl rfl (by kernel_rfl) (by kernel_rfl) (by kernel_rfl) (fun _ _ _ h => h) (by rfl) (fun V hV => by have _ := hV; go_simp) HS0.out ?_
  simp only [Act.put, List.setIfInBounds_toArray, List.set_cons_zero, List.set_cons_succ]
  refine takeH (i := 5) (v := .bool true) (d := 48) rfl rfl (by kernel_rfl) (by kernel_rfl) (by kernel_rfl) (fun _ _ _ h => h) (by rfl) (fun V hV => by have _ := hV; go_simp) HS0.out ?_
  simp only [Act.put, List.setIfInBounds_toArray, List.set_cons_zero, List.set_cons_succ]
  refine takeH (i := 6) (v := .bool true) (d := 49) rfl rfl (by kernel_rfl) (by kernel_rfl) (by kernel_rfl) (fun _ _ _ h => h) (by rfl) (fun V hV => by have _ := hV; go_simp) HS0.out ?_
  simp only [Act.put, List.setIfInBounds_toArray, List.set_cons_zero, List.set_cons_succ]
  refine takeH (i := 7) (v := .bool true) (d := 50) rfl rfl (by kernel_rfl) (by kernel_rfl) (by kernel_rfl) (fun _ _ _ h => h) (by rfl) (fun V hV => by have _ := hV; go_simp) HS0.out ?_
  simp only [Act.put, List.setIfInBounds_toArray, List.set_cons_zero, List.set_cons_succ]
  refine takeH (i := 8) (v := .int .i64 0) (d := 51) rfl rfl (by kernel_rfl) (by kernel_rfl) (by kernel_rfl) (fun _ _ _ h => h) (by rfl) (fun V hV => by have _ := hV; go_simp) HS0.out ?_
  simp only [Act.put, List.setIfInBounds_toArray, List.set_cons_zero, List.set_cons_succ]
  refine takeH (i := 9) (v := .bool true) (d := 52) rfl rfl (by kernel_rfl) (by kernel_rfl) (by kernel_rfl) (fun _ _ _ h => h) (by rfl) (fun V hV => by have _ := hV; go_simp) HS0.out ?_
  simp only [Act.put, List.setIfInBounds_toArray, List.set_cons_zero, List.set_cons_succ]
  refine takeH (i := 10) (v := .bool true) (d := 53) rfl rfl (by kernel_rfl) (by kernel_rfl) (by kernel_rfl) (fun _ _ _ h => h) (by rfl) (fun V hV => by have _ := hV; go_simp) HS0.out ?_
  simp only [Act.put, List.setIfInBounds_toArray, List.set_cons_zero, List.set_cons_succ]
  refine takeH (i := 11) (v := .bool true) (d := 54) rfl rfl (by kernel_rfl) (by kernel_rfl) (by kernel_rfl) (fun _ _ _ h => h) (by rfl) (fun V hV => by have _ := hV; go_simp) HS0.out ?_
  simp only [Act.put, List.setIfInBounds_toArray, List.set_cons_zero, List.set_cons_succ]
  refine takeH (i := 12) (v := .int .i64 0) (d := 55) rfl rfl (by kernel_rfl) (by kernel_rfl) (by kernel_rfl) (fun _ _ _ h => h) (by rfl) (fun V hV => by have _ := hV; go_simp) HS0.out ?_
  simp only [Act.put, List.setIfInBounds_toArray, List.set_cons_zero, List.set_cons_succ]
  refine takeH (i := 13) (v := .bool true) (d := 56) rfl rfl (by kernel_rfl) (by kernel_rfl) (by kernel_rfl) (fun _ _ _ h => h) (by rfl) (fun V hV => by have _ := hV; go_simp) HS0.out ?_
  simp only [Act.put, List.setIfInBounds_toArray, List.set_cons_zero, List.set_cons_succ]
  refine takeH (i := 14) (v := .bool true) (d := 57) rfl rfl (by kernel_rfl) (by kernel_rfl) (by kernel_rfl) (fun _ _ _ h => h) (by rfl) (fun V hV => by have _ := hV; go_simp) HS0.out ?_
  simp only [Act.put, List.setIfInBounds_toArray, List.set_cons_zero, List.set_cons_succ]
  refine takeH (i := 15) (v := .bool true) (d := 58) rfl rfl (by kernel_rfl) (by kernel_rfl) (by kernel_rfl) (fun _ _ _ h => h) (by rfl) (fun V hV => by have _ := hV; go_simp) HS0.out ?_
  simp only [Act.put, List.setIfInBounds_toArray, List.set_cons_zero, List.set_cons_succ]
  refine takeH (i := 16) (v := .pointer (some ⟨q3, 0, none⟩)) (d := 59) rfl rfl (by kernel_rfl) (by kernel_rfl) (by kernel_rfl) (fun _ _ _ h => h) (by rfl) (fun V hV => by have _ := hV; go_simp) HS0.out ?_
  simp only [Act.put, List.setIfInBounds_toArray, List.set_cons_zero, List.set_cons_succ]
  refine takeH (i := 17) (v := .slice D4a ([fS p kb0, fS (1 - p) kb1] : List FileL).length D4c) (d := 60) rfl rfl (by kernel_rfl) (by kernel_rfl) (by kernel_rfl) (fun _ _ _ h => h) (by rfl) (fun V hV => by have _ := hV; go_simp) HS0.out ?_
  simp only [Act.put, List.setIfInBounds_toArray, List.set_cons_zero, List.set_cons_succ]
  refine takeH (i := 18) (v := .int .i64 2) (d := 61) rfl rfl (by kernel_rfl) (by kernel_rfl) (by kernel_rfl) (fun _ _ _ h => h) (by rfl) (fun V hV => by have _ := hV; go_simp) HS0.out ?_
  simp only [Act.put, List.setIfInBounds_toArray, List.set_cons_zero, List.set_cons_succ]
  refine takeH (i := 19) (v := .bool true) (d := 62) rfl rfl (by kernel_rfl) (by kernel_rfl) (by kernel_rfl) (fun _ _ _ h => h) (by rfl) (fun V hV => by have _ := hV; go_simp) HS0.out ?_
  simp only [Act.put, List.setIfInBounds_toArray, List.set_cons_zero, List.set_cons_succ]
  refine takeH (i := 20) (v := .bool true) (d := 63) rfl rfl (by kernel_rfl) (by kernel_rfl) (by kernel_rfl) (fun _ _ _ h => h) (by rfl) (fun V hV => by have _ := hV; go_simp) HS0.out ?_
  simp only [Act.put, List.setIfInBounds_toArray, List.set_cons_zero, List.set_cons_succ]
  refine oneH (i := 21) rfl (by kernel_rfl) rfl (op_skip (w' := w6s.drew.setCell ⟨w.heap.size + 2, 0, none⟩ (.slice D4a ([fS p kb0, fS (1 - p) kb1] : List FileL).length D4c)) rfl (by go_simp) ⟨HS1.out, ?_⟩)
  refine oneH (i := 22) rfl (by kernel_rfl) rfl (op_run (d := 7) (v' := .bool true) (w' := w6s.drew.setCell ⟨w.heap.size + 2, 0, none⟩ (.slice D4a ([fS p kb0, fS (1 - p) kb1] : List FileL).length D4c)) rfl (by go_simp) ⟨HS1.out, ?_⟩)
  simp only [Act.put, List.setIfInBounds_toArray, List.set_cons_zero, List.set_cons_succ]
  refine wpAnyH_done (by kernel_rfl) ?_ _
  clear z11_0 z12_0 y13_0 HS0 HS1
  have BD : Below w6s.heap.size w6s w6s.drew := (Below.refl _ _).drew
  replace LB : Hid (Below w.heap.size w w6s.drew) := LB.out.trans (BD.mono LB.out.size)
  replace X0 : Hid (BX 24 w6s.drew w.heap.size #[.int .i64 T0.step, .int .i64 T0.phase, .bool T0.fresh, .slice a0 T0.vals.length c0, .slice b0 T0.mail.length d0]) := X0.out.below BD X0.out.lt
  replace X1 : Hid (BX 24 w6s.drew (w.heap.size + 1) #[.int .i64 T1.step, .int .i64 T1.phase, .bool T1.fresh, .slice a1 T1.vals.length c1, .slice b1 T1.mail.length d1]) := X1.out.below BD X1.out.lt
  replace O : Hid (BX 39 w6s.drew (w.heap.size + 2) #[.slice none 0 0]) := O.out.below BD O.out.lt
  replace D : Hid (BX 39 w6s.drew q3 #[.slice D4a ([fS p kb0, fS (1 - p) kb1] : List FileL).length D4c]) := D.out.below BD D.out.lt
  replace D4 : Hid (DiskR w6s.drew (.slice D4a ([fS p kb0, fS (1 - p) kb1]).length D4c) ([fS p kb0, fS (1 - p) kb1])) := D4.out.below BD (Nat.le_refl _)
  have O_old := O.out
  replace LB : Hid (Below w.heap.size w (w6s.drew.setCell ⟨w.heap.size + 2, 0, none⟩ (.slice D4a ([fS p kb0, fS (1 - p) kb1] : List FileL).length D4c))) := LB.out.setCell (show w.heap.size ≤ (w.heap.size + 2) by omega) _
  replace X0 : Hid (BX 24 (w6s.drew.setCell ⟨w.heap.size + 2, 0, none⟩ (.slice D4a ([fS p kb0, fS (1 - p) kb1] : List FileL).length D4c)) w.heap.size #[.int .i64 T0.step, .int .i64 T0.phase, .bool T0.fresh, .slice a0 T0.vals.length c0, .slice b0 T0.mail.length d0]) := X0.out.other (by omega)
  replace X1 : Hid (BX 24 (w6s.drew.setCell ⟨w.heap.size + 2, 0, none⟩ (.slice D4a ([fS p kb0, fS (1 - p) kb1] : List FileL).length D4c)) (w.heap.size + 1) #[.int .i64 T1.step, .int .i64 T1.phase, .bool T1.fresh, .slice a1 T1.vals.length c1, .slice b1 T1.mail.length d1]) := X1.out.other (by omega)
  replace O : Hid (BX 39 (w6s.drew.setCell ⟨w.heap.size + 2, 0, none⟩ (.slice D4a ([fS p kb0, fS (1 - p) kb1] : List FileL).length D4c)) (w.heap.size + 2) #[.slice D4a ([fS p kb0, fS (1 - p) kb1] : List FileL).length D4c]) := O.out.set 0 _
  replace D : Hid (BX 39 (w6s.drew.setCell ⟨w.heap.size + 2, 0, none⟩ (.slice D4a ([fS p kb0, fS (1 - p) kb1] : List FileL).length D4c)) q3 #[.slice D4a ([fS p kb0, fS (1 - p) kb1] : List FileL).length D4c]) := D.out.other (by omega)
  replace D4 : Hid (DiskR (w6s.drew.setCell ⟨w.heap.size + 2, 0, none⟩ (.slice D4a ([fS p kb0, fS (1 - p) kb1] : List FileL).length D4c)) (.slice D4a ([fS p kb0, fS (1 - p) kb1]).length D4c) ([fS p kb0, fS (1 - p) kb1])) := D4.out.setBox O_old
  clear O_old
  generalize w6s.drew.setCell ⟨w.heap.size + 2, 0, none⟩ (.slice D4a ([fS p kb0, fS (1 - p) kb1] : List FileL).length D4c) = wZ at *
  go_wp2_with fail
  have r0 := O.out.cell 0
  simp at r0
  exact bodyPost_ret (v := .tuple #[.agg #[.slice D4a ([fS p kb0, fS (1 - p) kb1] : List FileL).length D4c], .bool true]) (by simp [results, Tryz.results15, go_sem, r0]) rfl (HEND.out _ _ D4.out LB.out)
end Go.Proofs.YtkgdenbabafeoaaGreatDoor

namespace Go.Proofs.YtkgdenbabafeoaaGreatDoor
set_option maxRecDepth 100000
open Go.ChangeShapes Go.WideShapes Go.ChangeAt Go.RowKit

set_option maxHeartbeats 400000 in
theorem open_kept {H : Type} {enc : TypeId × Value → H} {W : World} {v0 : Value} {d0 : DataW H} {p0 : List MemPlace} (hv : ∃ cs, v0 = .agg cs ∧ cs.size = Tryz.prog.cellsOf 24) (h0 : DataW.Trod enc Tryz.prog W 0 (fun _ => true) true 24 v0 d0 p0)
    (hs : ∀ m ∈ d0.weights Tryz.prog 24, m ≤ reachBytes) : ∃ (s : SvS) (vv vm : Value), v0 = .agg #[.int .i64 s.step, .int .i64 s.phase, .bool s.fresh, vv, vm] ∧ (i64B s.step ∧ i64B s.phase) ∧ MlR W vv s.vals ∧ MlR W vm s.mail ∧ SavB s := by
  obtain ⟨cs, rfl, hcs⟩ := hv
  have hc1 : Tryz.prog.cellsOf 24 = 5 := by kernel_rfl
  have hc3 : Tryz.prog.cellsOf 3 = 1 := by kernel_rfl
  have hc4 : Tryz.prog.cellsOf 4 = 1 := by kernel_rfl
  have hc5 : Tryz.prog.cellsOf 22 = 1 := by kernel_rfl
  rw [hc1] at hcs
  obtain ⟨c0, c1, c2, c3, c4, rfl⟩ : ∃ c0 c1 c2 c3 c4, cs = #[c0, c1, c2, c3, c4] := by
    obtain ⟨l⟩ := cs
    match l, hcs with
    | [c0, c1, c2, c3, c4], _ => exact ⟨c0, c1, c2, c3, c4, rfl⟩
  obtain ⟨fuel, hf⟩ := h0
  obtain ⟨xs, n, _, hx, _, hxl, hfld⟩ := DataW.trod_struct Tryz.underlying24 hf
  have h0 := hfld 0 _ rfl
  have h1 := hfld 1 _ rfl
  have h2 := hfld 2 _ rfl
  have h3 := hfld 3 _ rfl
  have h4 := hfld 4 _ rfl
  match xs, hxl with
  | [y0, y1, y2, y3, y4], _ =>
    have e0 : ((Value.agg #[c0, c1, c2, c3, c4]).cells.toList.drop 0).take (Tryz.prog.cellsOf 3) = [c0] := by rw [hc3]; rfl
    have e1 : ((Value.agg #[c0, c1, c2, c3, c4]).cells.toList.drop 1).take (Tryz.prog.cellsOf 3) = [c1] := by rw [hc3]; rfl
    have e2 : ((Value.agg #[c0, c1, c2, c3, c4]).cells.toList.drop 2).take (Tryz.prog.cellsOf 4) = [c2] := by rw [hc4]; rfl
    have e3 : ((Value.agg #[c0, c1, c2, c3, c4]).cells.toList.drop 3).take (Tryz.prog.cellsOf 22) = [c3] := by rw [hc5]; rfl
    have e4 : ((Value.agg #[c0, c1, c2, c3, c4]).cells.toList.drop 4).take (Tryz.prog.cellsOf 22) = [c4] := by rw [hc5]; rfl
    simp only [List.getElem?_cons_zero, List.getElem?_cons_succ] at h0 h1 h2 h3 h4
    have h0' : DataW.trod enc Tryz.prog W 0 (fun _ => true) true n 3 [c0] = some y0 := by rw [← e0]; exact h0
    have h1' : DataW.trod enc Tryz.prog W 0 (fun _ => true) true n 3 [c1] = some y1 := by rw [← e1]; exact h1
    have h2' : DataW.trod enc Tryz.prog W 0 (fun _ => true) true n 4 [c2] = some y2 := by rw [← e2]; exact h2
    have h3' : DataW.trod enc Tryz.prog W 0 (fun _ => true) true n 22 [c3] = some y3 := by rw [← e3]; exact h3
    have h4' : DataW.trod enc Tryz.prog W 0 (fun _ => true) true n 22 [c4] = some y4 := by rw [← e4]; exact h4
    obtain ⟨i0, ei0, _, hi0⟩ := DataW.trod_int Tryz.underlying3 h0'
    obtain ⟨i1, ei1, _, hi1⟩ := DataW.trod_int Tryz.underlying3 h1'
    obtain ⟨b2, eb2, _⟩ := DataW.trod_bool Tryz.underlying4 h2'
    simp only [List.cons.injEq, and_true] at ei0 ei1 eb2
    subst ei0 ei1 eb2
    simp only [Prod.mk.injEq] at hx
    obtain ⟨rfl, _⟩ := hx
    have hs4 : ∀ m ∈ y3.1.weights Tryz.prog 22, m ≤ reachBytes := fun m hm => hs m (by
      simp only [DataW.weights, Tryz.underlying24, List.map_cons, List.map_nil, DataW.weightsEach, List.mem_append]
      simp [hm])
    have hs5 : ∀ m ∈ y4.1.weights Tryz.prog 22, m ≤ reachBytes := fun m hm => hs m (by
      simp only [DataW.weights, Tryz.underlying24, List.map_cons, List.map_nil, DataW.weightsEach, List.mem_append]
      simp [hm])
    obtain ⟨vs, hR, hB, hL⟩ := open_twos Tryz.underlying22 Tryz.underlying51 (by kernel_rfl) rfl rfl rfl rfl (by kernel_rfl) h3' hs4
    obtain ⟨ms, kR, kB, kL⟩ := open_twos Tryz.underlying22 Tryz.underlying51 (by kernel_rfl) rfl rfl rfl rfl (by kernel_rfl) h4' hs5
    exact ⟨⟨i0, i1, b2, vs, ms⟩, c3, c4, rfl, ⟨bounds_i64 hi0, bounds_i64 hi1⟩, hR, kR, ⟨hB, hL⟩, kB, kL⟩
end Go.Proofs.YtkgdenbabafeoaaGreatDoor

namespace Go.Proofs.YtkgdenbabafeoaaGreatDoor
set_option maxRecDepth 100000
open Go.ChangeShapes Go.WideShapes Go.ChangeAt Go.RowKit

/-- The same piece of mail. -/
def eqM (x y : Ml) : Bool := decide (x.1 = y.1 ∧ x.2 = y.2)
theorem eqM_true {x y : Ml} : eqM x y = true ↔ x = y := by
  unfold eqM
  rw [decide_eq_true_iff]
  exact ⟨fun h => Prod.ext h.1 h.2, fun h => by rw [h]; exact ⟨rfl, rfl⟩⟩

set_option maxHeartbeats 1000000 in
set_option maxRecDepth 100000 in
theorem sameMailK_yes (va vb : Value) (es : List Ml) (w : World) (ha : MlR w va es) (hb : MlR w vb es) :
    Calls Tryz.prog 35 #[va, vb] w fun e w' => e = .returned (.bool true) ∧ Below w.heap.size w w' := by
  have HA : Hid (MlR w va es) := ha
  have HB : Hid (MlR w vb es) := hb
  obtain ⟨a, ca, rfl, hca, hma, _, _⟩ := ha
  obtain ⟨b, cb, rfl, hcb, hmb, _, _⟩ := hb
  unfold maxLen at hma hmb
  have hll : ((es.length : Int) != (es.length : Int)) = false := by simp
  go_enter Tryz.func35, Tryz.ntmps35
  go_wp2_with fail
  go_loopw [5] (fun i wr => ∃ k : Nat, k ≤ es.length ∧ i = .int .i64 k ∧ Below w.heap.size w wr) (fun i _ => es.length - (intOf i).toNat)
  case atStart => exact ⟨0, by omega, rfl, Below.refl _ _⟩
  case round =>
    obtain ⟨k, hk, rfl, hbel⟩ := hrel
    have HBL : Hid (Below w.heap.size w wr) := hbel
    clear hbel
    by_cases hlt : k < es.length
    · obtain ⟨xa, oa, cap', e1, _, _, la, hva⟩ := MlR.at (HA.out.below HBL.out (Nat.le_refl _)) (by omega)
      injection e1 with e1 _ e3
      subst e1 e3
      obtain ⟨xb, ob, cap', e1, _, _, lb, hvb⟩ := MlR.at (HB.out.below HBL.out (Nat.le_refl _)) (by omega)
      injection e1 with e1 _ e3
      subst e1 e3
      obtain ⟨x, hx⟩ := getX hlt
      have p0 : (0 : Int) ≤ (k : Int) := by omega
      have p1 : (k : Int) < (es.length : Int) := by omega
      obtain ⟨c1, c2⟩ := hva k x hx
      obtain ⟨d1, d2⟩ := hvb k x hx
      obtain ⟨xt, xc⟩ := x
      simp only at c1 c2 d1 d2
      clear hva hvb hx
      go_wp2_with fail
      go_quiet (fail)
      go_wp2_with fail
      go_roundw
      case rel => exact ⟨k + 1, by omega, by go_num, below_drewN HBL.out _⟩
      case measure => simp [intOf]; omega
    · go_wp2_with fail
      go_ret
      exact ⟨rfl, HBL.out⟩
end Go.Proofs.YtkgdenbabafeoaaGreatDoor

namespace Go.Proofs.YtkgdenbabafeoaaGreatDoor
set_option maxRecDepth 100000
open Go.ChangeShapes Go.WideShapes Go.ChangeAt Go.RowKit

set_option maxHeartbeats 2000000 in
set_option maxRecDepth 100000 in
theorem sameMailK_any (va vb : Value) (es fs : List Ml) (w : World) (ha : MlR w va es) (hb : MlR w vb fs) :
    Calls Tryz.prog 35 #[va, vb] w fun e w' => ∃ r, e = .returned (.bool r) ∧ (es = fs → r = true) ∧ Below w.heap.size w w' := by
  by_cases hef : es = fs
  · subst hef
    exact (sameMailK_yes va vb es w ha hb).mono fun e w' h => ⟨true, h.1, fun _ => rfl, h.2⟩
  have HE : Hid (∀ r, es = fs → r = true) := fun _ h => absurd h hef
  have HA : Hid (MlR w va es) := ha
  have HB : Hid (MlR w vb fs) := hb
  obtain ⟨a, ca, rfl, hca, hma, _, _⟩ := ha
  obtain ⟨b, cb, rfl, hcb, hmb, _, _⟩ := hb
  unfold maxLen at hma hmb
  by_cases hll : es.length = fs.length
  case neg =>
    have t0 : ((es.length : Int) != (fs.length : Int)) = true := by simp; omega
    clear hll hef
    go_enter Tryz.func35, Tryz.ntmps35
    go_wp2_with fail
    go_ret
    exact ⟨false, rfl, HE.out _, Below.refl _ _⟩
  have t0 : ((es.length : Int) != (fs.length : Int)) = false := by simp; omega
  have hl1 : es.length ≤ fs.length := by omega
  clear hll hef
  go_enter Tryz.func35, Tryz.ntmps35
  go_wp2_with fail
  go_loopw [5] (fun i wr => ∃ k : Nat, k ≤ es.length ∧ i = .int .i64 k ∧ Below w.heap.size w wr) (fun i _ => es.length - (intOf i).toNat)
  case atStart => exact ⟨0, by omega, rfl, Below.refl _ _⟩
  case round =>
    obtain ⟨k, hk, rfl, hbel⟩ := hrel
    have HBL : Hid (Below w.heap.size w wr) := hbel
    clear hbel
    by_cases hlt : k < es.length
    · obtain ⟨xa, oa, cap', e1, _, _, la, hva⟩ := MlR.at (HA.out.below HBL.out (Nat.le_refl _)) (by omega)
      injection e1 with e1 _ e3
      subst e1 e3
      obtain ⟨xb, ob, cap', e1, _, _, lb, hvb⟩ := MlR.at (HB.out.below HBL.out (Nat.le_refl _)) (by omega)
      injection e1 with e1 _ e3
      subst e1 e3
      obtain ⟨x, hx⟩ := getX hlt
      obtain ⟨y, hy⟩ := getX (show k < fs.length by omega)
      have p0 : (0 : Int) ≤ (k : Int) := by omega
      have p1 : (k : Int) < (es.length : Int) := by omega
      have p2 : (k : Int) < (fs.length : Int) := by omega
      obtain ⟨c1, c2⟩ := hva k x hx
      obtain ⟨d1, d2⟩ := hvb k y hy
      clear hva hvb hx hy
      by_cases hxy : x = y
      · subst hxy
        obtain ⟨xt, xc⟩ := x
        simp only at c1 c2 d1 d2
        go_wp2_with fail
        go_quiet (fail)
        go_wp2_with fail
        go_roundw
        case rel => exact ⟨k + 1, by omega, by go_num, below_drewN HBL.out _⟩
        case measure => simp [intOf]; omega
      · have hne : ¬ (x.1 = y.1 ∧ x.2 = y.2) := fun h => hxy (Prod.ext h.1 h.2)
        obtain ⟨x0, x1⟩ := x
        obtain ⟨y0, y1⟩ := y
        simp only at c1 c2 d1 d2 hne
        by_cases h0 : x0 = y0
        · have q0 : (x0 == y0) = true := by simpa using h0
          have q1 : (x1 == y1) = false := by simp; intro h; exact hne ⟨h0, h⟩
          clear hxy hne h0
          go_wp2_with fail
          go_quiet (fail)
          go_wp2_with fail
          go_ret
          exact ⟨false, rfl, HE.out _, below_drewN HBL.out _⟩
        · have q0 : (x0 == y0) = false := by simpa using h0
          clear hxy hne h0
          go_wp2_with fail
          go_quiet (fail)
          go_wp2_with fail
          go_ret
          exact ⟨false, rfl, HE.out _, below_drewN HBL.out _⟩
    · go_wp2_with fail
      go_ret
      exact ⟨true, rfl, fun _ => rfl, HBL.out⟩

set_option maxHeartbeats 4000000 in
set_option maxRecDepth 100000 in
theorem sameSavedK_any (s t : SvS) (va vb vma vmb : Value) (w : World) (ha : MlR w va s.vals) (hb : MlR w vb t.vals) (hma : MlR w vma s.mail) (hmb : MlR w vmb t.mail) :
    Calls Tryz.prog 14 #[.agg #[.int .i64 s.step, .int .i64 s.phase, .bool s.fresh, va, vma], .agg #[.int .i64 t.step, .int .i64 t.phase, .bool t.fresh, vb, vmb]] w fun e w' => ∃ r, e = .returned (.bool r) ∧ (s = t → r = true) ∧ Below w.heap.size w w' := by
  obtain ⟨s1, s2, s3, s4, s5⟩ := s
  obtain ⟨t1, t2, t3, t4, t5⟩ := t
  simp only at ha hb hma hmb ⊢
  have HA : Hid (MlR w va s4) := ha
  have HB : Hid (MlR w vb t4) := hb
  have HMA : Hid (MlR w vma s5) := hma
  have HMB : Hid (MlR w vmb t5) := hmb
  obtain ⟨a, ca, rfl, _, hm1, _, _⟩ := ha
  obtain ⟨b, cb, rfl, _, hm2, _, _⟩ := hb
  obtain ⟨ma, mca, rfl⟩ := hma.shape
  obtain ⟨mb, mcb, rfl⟩ := hmb.shape
  unfold maxLen at hm1 hm2
  clear hma hmb
  obtain ⟨W0, hW0⟩ : ∃ W0, W0 = (w.alloc (.cells #[.int .i64 s1, .int .i64 s2, .bool s3, .slice a s4.length ca, .slice ma s5.length mca] 28)).alloc (.cells #[.int .i64 t1, .int .i64 t2, .bool t3, .slice b t4.length cb, .slice mb t5.length mcb] 28) := ⟨_, rfl⟩
  obtain ⟨Q0, T0, B0, z1, z2⟩ := boxes2 w #[.int .i64 s1, .int .i64 s2, .bool s3, .slice a s4.length ca, .slice ma s5.length mca] #[.int .i64 t1, .int .i64 t2, .bool t3, .slice b t4.length cb, .slice mb t5.length mcb] 28 28 W0 hW0
  have HK : Hid (∀ X, Below W0.heap.size W0 X → BX 28 X w.heap.size #[.int .i64 s1, .int .i64 s2, .bool s3, .slice a s4.length ca, .slice ma s5.length mca] ∧ BX 28 X (w.heap.size + 1) #[.int .i64 t1, .int .i64 t2, .bool t3, .slice b t4.length cb, .slice mb t5.length mcb] ∧ Below w.heap.size w X) := fun X hX => ⟨Q0.below hX (by omega), T0.below hX (by omega), B0.trans (hX.mono (by omega))⟩
  have A0 : Hid (Below W0.heap.size W0 W0) := Below.refl _ _
  obtain ⟨q0, q1, q2, q3, q4⟩ := Q0.all5
  obtain ⟨p0, p1, p2, p3, p4⟩ := T0.all5
  have CM : Hid (∀ X, Below W0.heap.size W0 X → Calls Tryz.prog 35 #[.slice ma s5.length mca, .slice mb t5.length mcb] X fun e w' => ∃ r, e = .returned (.bool r) ∧ (s5 = t5 → r = true) ∧ Below X.heap.size X w') := fun X hX => sameMailK_any _ _ s5 t5 X (HMA.out.below (HK.out X hX).2.2 (Nat.le_refl _)) (HMB.out.below (HK.out X hX).2.2 (Nat.le_refl _))
  clear Q0 T0 B0 HMA HMB
  by_cases hc : s1 = t1
  case neg =>
    have HE : Hid (∀ r, SvS.mk s1 s2 s3 s4 s5 = SvS.mk t1 t2 t3 t4 t5 → r = true) := fun _ h => absurd (by injection h) hc
    have u1 : (s1 != t1) = true := by simpa using hc
    clear hc CM HA HB
    go_enter Tryz.func14, Tryz.ntmps14
    go_upto_region 1 with fail
    rw [← hW0]
    clear hW0
    go_wp2_with fail
    go_ret
    exact ⟨false, rfl, HE.out _, (HK.out _ A0.out).2.2⟩
  have u1 : (s1 != t1) = false := by simpa using hc
  clear hc
  by_cases hc : s2 = t2
  case neg =>
    have HE : Hid (∀ r, SvS.mk s1 s2 s3 s4 s5 = SvS.mk t1 t2 t3 t4 t5 → r = true) := fun _ h => absurd (by injection h) hc
    have u2 : (s2 != t2) = true := by simpa using hc
    clear hc CM HA HB
    go_enter Tryz.func14, Tryz.ntmps14
    go_upto_region 1 with fail
    rw [← hW0]
    clear hW0
    go_wp2_with fail
    go_ret
    exact ⟨false, rfl, HE.out _, (HK.out _ A0.out).2.2⟩
  have u2 : (s2 != t2) = false := by simpa using hc
  clear hc
  by_cases hc : s3 = t3
  case neg =>
    have HE : Hid (∀ r, SvS.mk s1 s2 s3 s4 s5 = SvS.mk t1 t2 t3 t4 t5 → r = true) := fun _ h => absurd (by injection h) hc
    clear CM HA HB
    cases s3 <;> cases t3
    · exact absurd rfl hc
    · clear hc
      go_enter Tryz.func14, Tryz.ntmps14
      go_upto_region 1 with fail
      rw [← hW0]
      clear hW0
      go_wp2_with fail
      go_ret
      exact ⟨false, rfl, HE.out _, (HK.out _ A0.out).2.2⟩
    · clear hc
      go_enter Tryz.func14, Tryz.ntmps14
      go_upto_region 1 with fail
      rw [← hW0]
      clear hW0
      go_wp2_with fail
      go_ret
      exact ⟨false, rfl, HE.out _, (HK.out _ A0.out).2.2⟩
    · exact absurd rfl hc
  subst hc
  by_cases hc : s4.length = t4.length
  case neg =>
    have HE : Hid (∀ r, SvS.mk s1 s2 s3 s4 s5 = SvS.mk t1 t2 s3 t4 t5 → r = true) := fun _ h => absurd (by injection h with _ _ _ h4 _; rw [h4]) hc
    have u4 : ((s4.length : Int) != (t4.length : Int)) = true := by simp; omega
    clear hc CM HA HB
    go_enter Tryz.func14, Tryz.ntmps14
    go_upto_region 1 with fail
    rw [← hW0]
    clear hW0
    go_wp2_with fail
    go_ret
    exact ⟨false, rfl, HE.out _, (HK.out _ A0.out).2.2⟩
  have u4 : ((s4.length : Int) != (t4.length : Int)) = false := by simp; omega
  have hl1 : s4.length ≤ t4.length := by omega
  clear hc
  go_enter Tryz.func14, Tryz.ntmps14
  go_upto_region 1 with fail
  rw [← hW0]
  clear hW0
  go_wp2_with fail
  clear q0 q1 q2 q3 q4 p0 p1 p2 p3 p4 u1 u2 u4
  go_loopw [5] (fun i wr => ∃ k : Nat, k ≤ s4.length ∧ i = .int .i64 k ∧ Below W0.heap.size W0 wr) (fun i _ => s4.length - (intOf i).toNat)
  case atStart => exact ⟨0, by omega, rfl, A0.out⟩
  case round =>
    obtain ⟨k, hk, rfl, hbel⟩ := hrel
    have HBL : Hid (Below W0.heap.size W0 wr) := hbel
    obtain ⟨QX, QY, hbw⟩ := HK.out _ hbel
    have HBW : Hid (Below w.heap.size w wr) := hbw
    obtain ⟨q0, q1, q2, q3, q4⟩ := QX.all5
    obtain ⟨p0, p1, p2, p3, p4⟩ := QY.all5
    clear hbel QX QY hbw
    by_cases hlt : k < s4.length
    · obtain ⟨xa, oa, cap', e1, _, _, la, hva⟩ := MlR.at (HA.out.below HBW.out (Nat.le_refl _)) (by omega)
      injection e1 with e1 _ e3
      subst e1 e3
      obtain ⟨xb, ob, cap', e1, _, _, lb, hvb⟩ := MlR.at (HB.out.below HBW.out (Nat.le_refl _)) (by omega)
      injection e1 with e1 _ e3
      subst e1 e3
      obtain ⟨x, hx⟩ := getX hlt
      obtain ⟨y, hy⟩ := getX (show k < t4.length by omega)
      have k0 : (0 : Int) ≤ (k : Int) := by omega
      have k1 : (k : Int) < (s4.length : Int) := by omega
      have k2 : (k : Int) < (t4.length : Int) := by omega
      obtain ⟨c1, c2⟩ := hva k x hx
      obtain ⟨d1, d2⟩ := hvb k y hy
      have HE : Hid (x ≠ y → ∀ r, SvS.mk s1 s2 s3 s4 s5 = SvS.mk t1 t2 s3 t4 t5 → r = true) := fun h1 r h2 => by
        injection h2 with _ _ _ h3 _
        rw [h3, hy] at hx
        injection hx with hx
        exact absurd hx.symm h1
      clear hva hvb hx hy
      by_cases hxy : x = y
      · subst hxy
        obtain ⟨xt, xc⟩ := x
        simp only at c1 c2 d1 d2
        go_wp2_with fail
        go_quiet (fail)
        go_wp2_with fail
        go_roundw
        case rel => exact ⟨k + 1, by omega, by go_num, below_drewN HBL.out _⟩
        case measure => simp [intOf]; omega
      · replace HE : Hid (∀ r, SvS.mk s1 s2 s3 s4 s5 = SvS.mk t1 t2 s3 t4 t5 → r = true) := HE.out hxy
        have hne : ¬ (x.1 = y.1 ∧ x.2 = y.2) := fun h => hxy (Prod.ext h.1 h.2)
        obtain ⟨x0, x1⟩ := x
        obtain ⟨y0, y1⟩ := y
        simp only at c1 c2 d1 d2 hne
        by_cases h0 : x0 = y0
        · have q0 : (x0 == y0) = true := by simpa using h0
          have q1 : (x1 == y1) = false := by simp; intro h; exact hne ⟨h0, h⟩
          clear hxy hne h0
          go_wp2_with fail
          go_quiet (fail)
          go_wp2_with fail
          go_ret
          exact ⟨false, rfl, HE.out _, (HK.out _ (below_drewN HBL.out _)).2.2⟩
        · have q0 : (x0 == y0) = false := by simpa using h0
          clear hxy hne h0
          go_wp2_with fail
          go_quiet (fail)
          go_wp2_with fail
          go_ret
          exact ⟨false, rfl, HE.out _, (HK.out _ (below_drewN HBL.out _)).2.2⟩
    · have HM : Hid (SvS.mk s1 s2 s3 s4 s5 = SvS.mk t1 t2 s3 t4 t5 → s5 = t5) := fun h => by injection h
      clear q0 q1 q2 q3 p0 p1 p2 p3
      obtain ⟨q0, q1, q2, q3, q4⟩ := (HK.out _ HBL.out).1.all5
      go_wp2_with fail
      refine (CM.out _ HBL.out).mono ?_
      rintro e w2 ⟨r, rfl, hr, hb2⟩
      have H2 : Hid ((SvS.mk s1 s2 s3 s4 s5 = SvS.mk t1 t2 s3 t4 t5 → r = true) ∧ Below w.heap.size w w2) := ⟨fun h => hr (HM.out h), HBW.out.trans (hb2.mono HBW.out.size)⟩
      clear hr hb2
      go_wp2_with fail
      go_ret
      exact ⟨r, rfl, H2.out.1, H2.out.2⟩
end Go.Proofs.YtkgdenbabafeoaaGreatDoor

namespace Go.Proofs.YtkgdenbabafeoaaGreatDoor
set_option maxRecDepth 100000
open Go.ChangeShapes Go.WideShapes Go.ChangeAt Go.RowKit

section
variable {H : Type} {enc : TypeId × Value → H}
/-- A law's contract, told of the arguments' reach, of the world's shape and of the list. -/
theorem returns_laid {a : Assume} {C : Checked} {os : Os} {f : FuncId} {fn : Func} {s : ChangeSpec} {conds : List PathCond} {apart fresh handsOn again : Bool} {X : World → Array Value → Prop}
    (hX : ∀ (w w' : World) (args : Array Value), w.heap = w'.heap → X w args → X w' args)
    (own : ownKnob C.prog.godebug = none) (started : os.Started) (noInit : C.prog.inits.idxOf? f = none) (hfn : C.prog.funcs[f]? = some fn)
    (witness : ∃ (w : World) (tape : Tape) (i : Input), w.os = os ∧ (w.forCall tape i).Shaped C.prog ∧ i.vars = [] ∧ Input.okWide C.prog (w.forCall tape i) .any w.heap.size f i ∧
      ((s.pre enc C.prog fn conds apart (w.forCall tape i).memory i.args ∧ X (w.forCall tape i).memory i.args) ∧ sizedMet enc C.prog fn (OpenSpec.ofChange s) apart (w.forCall tape i).memory i.args) ∧ a.holds C.prog (lone (Frame.enter C.prog f i.args .normal) [] (w.forCall tape i)))
    (contract : ∀ (W : World) (base : Nat) (args : Array Value) (ds gs : List (DataW H)) (before : List MemPlace),
      (∀ (j : Nat) t v, fn.params[j]? = some t → args[j]? = some v → Value.okWide C.prog W .any base t v) →
      DataW.Whole enc C.prog fn.params.toList s.vars apart W args.toList ds gs before →
      conds.all (PathCond.test C.prog ⟨fn.params.toList, ds, s.plain.varTypes C.prog, gs⟩) = true →
      (DataW.weightsEach C.prog (fn.params.toList ++ s.plain.varTypes C.prog) (ds ++ gs)).all (· ≤ reachBytes) = true → W.ShapedOpen C.prog → X W args →
      a.holds C.prog (lone (Frame.enter C.prog f args .normal) [] W) →
      Calls C.prog f args W fun e W' => ∃ v, e = .returned v ∧ s.post enc C.prog fn apart fresh handsOn again W args v W') :
    ReturnsInHanded a C os f .any (fun w args => (s.pre enc C.prog fn conds apart w args ∧ X w args) ∧ sizedMet enc C.prog fn (OpenSpec.ofChange s) apart w args) (s.post enc C.prog fn apart fresh handsOn again) := by
  refine returnsInHanded_of_calls own started noInit witness ?_
  intro w tape i _ hsh _ hok hpre hholds
  obtain ⟨_, _, _, fn', hfn', _, _, _, _, hval⟩ := hok
  have e : fn' = fn := Option.some.inj (hfn'.symm.trans hfn)
  subst e
  obtain ⟨⟨⟨ds, gs, before, hw, hc⟩, hx⟩, hz⟩ := hpre
  have hw' := DataW.Whole.of_heap (w' := w.forCall tape i) (by rfl) hw
  refine (contract (w.forCall tape i) w.heap.size i.args ds gs before hval hw' hc (hz.weights hw) hsh (hX _ _ _ (by rfl) hx) hholds).mono fun e W' ⟨v, he, hp⟩ => ?_
  subst he
  exact ChangeSpec.post_blind hp
end
end Go.Proofs.YtkgdenbabafeoaaGreatDoor

namespace Go.Proofs.YtkgdenbabafeoaaGreatDoor
set_option maxRecDepth 100000
open Go.ChangeShapes Go.WideShapes Go.ChangeAt Go.RowKit

/-- Nothing is asked of the first world. -/
def NoF (_ : World) : Prop := True
theorem no_facts {W : World} {l : List (String × DataW Unit)} (_ : laidMetH Tryz.prog l W) (_ : W.ShapedOpen Tryz.prog) : NoF W := trivial
theorem ckptBack_met (os : Os) (args : Array Value) : laidMetH Tryz.prog Rows.ckptBackRow.laid ((World.doorLaid Tryz.prog 400 os).forCall (fun _ _ => 0) ⟨#[], args, []⟩).memory :=
  laidMetH_of_parts3 (fuel := 8) (laidMet_of_run' 8 (by kernel_rfl) (by kernel_rfl)) (by kernel_rfl) (by kernel_rfl)
theorem ckptTorn_met (os : Os) (args : Array Value) : laidMetH Tryz.prog Rows.ckptTornRow.laid ((World.doorLaid Tryz.prog 400 os).forCall (fun _ _ => 0) ⟨#[], args, []⟩).memory :=
  laidMetH_of_parts3 (fuel := 8) (laidMet_of_run' 8 (by kernel_rfl) (by kernel_rfl)) (by kernel_rfl) (by kernel_rfl)
theorem ckptNewest_met (os : Os) (args : Array Value) : laidMetH Tryz.prog Rows.ckptNewestRow.laid ((World.doorLaid Tryz.prog 400 os).forCall (fun _ _ => 0) ⟨#[], args, []⟩).memory :=
  laidMetH_of_parts3 (fuel := 8) (laidMet_of_run' 8 (by kernel_rfl) (by kernel_rfl)) (by kernel_rfl) (by kernel_rfl)
end Go.Proofs.YtkgdenbabafeoaaGreatDoor

namespace Go.Proofs.YtkgdenbabafeoaaGreatDoor
set_option maxRecDepth 100000
open Go.ChangeShapes Go.WideShapes Go.ChangeAt Go.RowKit

set_option maxHeartbeats 4000000 in
set_option maxRecDepth 100000 in
theorem ckLoad_any (v : Value) (fs : List FileL) (n : Int) (w : World) (h : DiskR w v fs) (hg : Good fs) :
    Calls Tryz.prog 13 #[.agg #[v], .int .i64 n] w (SvdP w (loadE fs n)) := by
  have HD : Hid (DiskR w v fs) := h
  have HG : Hid (Good fs) := hg
  obtain ⟨a, cap, rfl⟩ : ∃ a c, v = .slice a fs.length c := by obtain ⟨a, c, e, _⟩ := h; exact ⟨a, c, e⟩
  clear h hg
  obtain ⟨W0, hW0⟩ : ∃ W0, W0 = (w.alloc (.cells #[.slice a fs.length cap] 39)).alloc (.cells #[.int .i64 0, .int .i64 0, .bool false, .slice none 0 0, .slice none 0 0] 28) := ⟨_, rfl⟩
  obtain ⟨Q0, M0, B0, s1, s2⟩ := boxes2 w #[.slice a fs.length cap] #[.int .i64 0, .int .i64 0, .bool false, .slice none 0 0, .slice none 0 0] 39 28 W0 hW0
  have HK : Hid (∀ X, Below W0.heap.size W0 X → BX 39 X w.heap.size #[.slice a fs.length cap] ∧ BX 28 X (w.heap.size + 1) #[.int .i64 0, .int .i64 0, .bool false, .slice none 0 0, .slice none 0 0] ∧ Below w.heap.size w X ∧ DiskR X (.slice a fs.length cap) fs) := fun X hX => by
    have hb := B0.trans (hX.mono (show w.heap.size ≤ W0.heap.size by omega))
    exact ⟨Q0.below hX (by omega), M0.below hX (by omega), hb, HD.out.below hb (Nat.le_refl _)⟩
  have A0 : Hid (Below W0.heap.size W0 W0) := Below.refl _ _
  obtain ⟨q0, _⟩ := Q0.all1
  clear Q0 M0 B0
  have HN : Hid (∀ f, loadE fs n = (sv0, f) → ∀ w', Below w.heap.size w w' → SvdP w (loadE fs n) (.returned (.tuple #[.agg #[.int .i64 0, .int .i64 0, .bool false, .slice none 0 0, .slice none 0 0], .int .i64 f])) w') := fun f h w' hb => by rw [h]; exact SvdP.no hb
  have HY : Hid (∀ s f, loadE fs n = (s, f) → ∀ v1 v2 w', w'.ownsRow w.heap.size 53 2 v1 s.vals.length (s.vals.flatMap encM) → w'.ownsRow w.heap.size 62 2 v2 s.mail.length (s.mail.flatMap encM) → Below w.heap.size w w' → SvdP w (loadE fs n) (.returned (.tuple #[.agg #[.int .i64 s.step, .int .i64 s.phase, .bool s.fresh, v1, v2], .int .i64 f])) w') := fun s f h v1 v2 w' h1 h2 h3 => by rw [h]; exact SvdP.at h1 h2 h3
  generalize SvdP w (loadE fs n) = P at *
  by_cases hn : 0 ≤ n ∧ n ≤ 1
  case neg =>
    have HE : Hid (∀ w', Below w.heap.size w w' → P (.returned (.tuple #[.agg #[.int .i64 0, .int .i64 0, .bool false, .slice none 0 0, .slice none 0 0], .int .i64 2])) w') := HN.out 2 (loadE_no hn)
    have CN : Hid (∀ X, Calls Tryz.prog 28 #[.int .i64 n] X fun e w' => e = .returned (.tuple #[.string ByteArray.empty, .int .i64 2]) ∧ w' = X) := fun X => slotName_no n hn X
    clear HN HY hn
    go_enter Tryz.func13, Tryz.ntmps13
    go_upto_region 1 with fail
    rw [← hW0]
    clear hW0
    go_wp2_with fail
    refine (CN.out _).mono ?_
    rintro e w1 ⟨rfl, e1⟩
    have e1' : W0 = w1 := e1.symm
    subst e1'
    clear e1
    obtain ⟨m0, m1, m2, m3, m4⟩ := (HK.out _ A0.out).2.1.all5
    obtain ⟨f0, f1, f2, f3, f4⟩ := (HK.out _ A0.out).2.1.all5f
    have HX : Hid (P (.returned (.tuple #[.agg #[.int .i64 0, .int .i64 0, .bool false, .slice none 0 0, .slice none 0 0], .int .i64 2])) (putS W0 (w.heap.size + 1) (.int .i64 0) (.int .i64 0) (.bool false) (.slice none 0 0) (.slice none 0 0))) := HE.out _ (below_putS (HK.out _ A0.out).2.2.1 (Nat.le_succ _) _ _ _ _ _)
    have RX : Hid (BX 28 (putS W0 (w.heap.size + 1) (.int .i64 0) (.int .i64 0) (.bool false) (.slice none 0 0) (.slice none 0 0)) (w.heap.size + 1) #[.int .i64 0, .int .i64 0, .bool false, .slice none 0 0, .slice none 0 0]) := BX.putS (HK.out _ A0.out).2.1
    go_wp2_with fail
    obtain ⟨r0, r1, r2, r3, r4⟩ := RX.out.all5
    unfold putS at r0 r1 r2 r3 r4
    exact bodyPost_ret (v := .tuple #[.agg #[.int .i64 0, .int .i64 0, .bool false, .slice none 0 0, .slice none 0 0], .int .i64 2]) (by simp [results, Tryz.results13, go_sem, r0, r1, r2, r3, r4]) rfl HX.out
  have CN : Hid (∀ X, Calls Tryz.prog 28 #[.int .i64 n] X fun e w' => e = .returned (.tuple #[.string (slotB n), .int .i64 0]) ∧ w' = X) := fun X => slotName_yes n hn X
  have K1 : Hid (¬ (readF fs (slotB n)).2 = 0 → loadE fs n = (sv0, (readF fs (slotB n)).2)) := fun h => loadE_err hn h
  have K2 : Hid ((readF fs (slotB n)).2 = 0 → loadE fs n = decS (readF fs (slotB n)).1) := fun h => loadE_yes hn h
  have RB : Hid (∀ x ∈ (readF fs (slotB n)).1, 0 ≤ x ∧ x ≤ 255) := readF_bytes HG.out
  have CR : Hid (∀ X, DiskR X (.slice a fs.length cap) fs → Calls Tryz.prog 34 #[.agg #[.slice a fs.length cap], .string (slotB n)] X fun e w' => ∃ v', e = .returned (.tuple #[v', .int .i64 (readF fs (slotB n)).2]) ∧ Reads .u8 w' v' (readF fs (slotB n)).1 ∧ Below X.heap.size X w') := fun X h => read_any _ fs (slotB n) X h HG.out
  clear hn
  generalize readF fs (slotB n) = R1 at *
  obtain ⟨l, t1⟩ := R1
  simp only at K1 K2 RB CR
  generalize slotB n = sl at *
  have CD : Hid (∀ X v, Reads .u8 X v l → Calls Tryz.prog 9 #[v] X (SvdP X (decS l))) := fun X v h => ckDecode_any v l X h RB.out
  replace HN : Hid (¬ t1 = 0 → ∀ w', Below w.heap.size w w' → P (.returned (.tuple #[.agg #[.int .i64 0, .int .i64 0, .bool false, .slice none 0 0, .slice none 0 0], .int .i64 t1])) w') := fun h => HN.out t1 (K1.out h)
  have HY2 : Hid (t1 = 0 → ∀ s f, decS l = (s, f) → ∀ v1 v2 w', w'.ownsRow w.heap.size 53 2 v1 s.vals.length (s.vals.flatMap encM) → w'.ownsRow w.heap.size 62 2 v2 s.mail.length (s.mail.flatMap encM) → Below w.heap.size w w' → P (.returned (.tuple #[.agg #[.int .i64 s.step, .int .i64 s.phase, .bool s.fresh, v1, v2], .int .i64 f])) w') := fun h s f h2 => HY.out s f ((K2.out h).trans h2)
  clear HY K1 K2
  generalize decS l = D at *
  obtain ⟨s, t2⟩ := D
  by_cases ht : t1 = 0
  case neg =>
    have HE : Hid (∀ w', Below w.heap.size w w' → P (.returned (.tuple #[.agg #[.int .i64 0, .int .i64 0, .bool false, .slice none 0 0, .slice none 0 0], .int .i64 t1])) w') := HN.out ht
    have tn : (t1 != 0) = true := by simp [ht]
    clear HN HY2 ht CD
    go_enter Tryz.func13, Tryz.ntmps13
    go_upto_region 1 with fail
    rw [← hW0]
    clear hW0
    go_wp2_with fail
    refine (CN.out _).mono ?_
    rintro e w1 ⟨rfl, e1⟩
    have e1' : W0 = w1 := e1.symm
    subst e1'
    clear e1
    go_wp2_with fail
    refine (CR.out _ (HK.out _ A0.out).2.2.2).mono ?_
    rintro e w2 ⟨v2, rfl, hr2, hb2⟩
    have A2 : Hid (Below W0.heap.size W0 w2) := hb2
    have R2 : Hid (Reads .u8 w2 v2 l) := hr2
    obtain ⟨xa, xc, rfl⟩ : ∃ a c, v2 = .slice a l.length c := by obtain ⟨a, c, e, _⟩ := hr2; exact ⟨a, c, e⟩
    clear hr2 hb2 q0 CR CN
    obtain ⟨m0, m1, m2, m3, m4⟩ := (HK.out _ A2.out).2.1.all5
    obtain ⟨f0, f1, f2, f3, f4⟩ := (HK.out _ A2.out).2.1.all5f
    have HX : Hid (P (.returned (.tuple #[.agg #[.int .i64 0, .int .i64 0, .bool false, .slice none 0 0, .slice none 0 0], .int .i64 t1])) (putS w2 (w.heap.size + 1) (.int .i64 0) (.int .i64 0) (.bool false) (.slice none 0 0) (.slice none 0 0))) := HE.out _ (below_putS (HK.out _ A2.out).2.2.1 (Nat.le_succ _) _ _ _ _ _)
    have RX : Hid (BX 28 (putS w2 (w.heap.size + 1) (.int .i64 0) (.int .i64 0) (.bool false) (.slice none 0 0) (.slice none 0 0)) (w.heap.size + 1) #[.int .i64 0, .int .i64 0, .bool false, .slice none 0 0, .slice none 0 0]) := BX.putS (HK.out _ A2.out).2.1
    go_wp2_with fail
    obtain ⟨r0, r1, r2, r3, r4⟩ := RX.out.all5
    unfold putS at r0 r1 r2 r3 r4
    exact bodyPost_ret (v := .tuple #[.agg #[.int .i64 0, .int .i64 0, .bool false, .slice none 0 0, .slice none 0 0], .int .i64 t1]) (by simp [results, Tryz.results13, go_sem, r0, r1, r2, r3, r4]) rfl HX.out
  have HE : Hid (∀ v1 v2 w', w'.ownsRow w.heap.size 53 2 v1 s.vals.length (s.vals.flatMap encM) → w'.ownsRow w.heap.size 62 2 v2 s.mail.length (s.mail.flatMap encM) → Below w.heap.size w w' → P (.returned (.tuple #[.agg #[.int .i64 s.step, .int .i64 s.phase, .bool s.fresh, v1, v2], .int .i64 t2])) w') := HY2.out ht s t2 rfl
  subst ht
  clear HN HY2
  go_enter Tryz.func13, Tryz.ntmps13
  go_upto_region 1 with fail
  rw [← hW0]
  clear hW0
  go_wp2_with fail
  refine (CN.out _).mono ?_
  rintro e w1 ⟨rfl, e1⟩
  have e1' : W0 = w1 := e1.symm
  subst e1'
  clear e1
  go_wp2_with fail
  refine (CR.out _ (HK.out _ A0.out).2.2.2).mono ?_
  rintro e w2 ⟨v2, rfl, hr2, hb2⟩
  have A2 : Hid (Below W0.heap.size W0 w2) := hb2
  have R2 : Hid (Reads .u8 w2 v2 l) := hr2
  obtain ⟨xa, xc, rfl⟩ : ∃ a c, v2 = .slice a l.length c := by obtain ⟨a, c, e, _⟩ := hr2; exact ⟨a, c, e⟩
  clear hr2 hb2 q0 CR CN
  go_wp2_with fail
  refine (CD.out _ _ R2.out).mono ?_
  rintro e w4 ⟨u1, u2, rfl, hu1, hu2, hb4⟩
  obtain ⟨ua, uc, rfl⟩ := (RowK.own encM_len hu1 : MlR w4 u1 s.vals).shape
  obtain ⟨ya, yc, rfl⟩ := (RowK.own encM_len hu2 : MlR w4 u2 s.mail).shape
  have hs2 := A2.out.size
  have A4 : Hid (Below W0.heap.size W0 w4) := A2.out.trans (hb4.mono hs2)
  have O1 : Hid (w4.ownsRow W0.heap.size 53 2 (.slice ua s.vals.length uc) s.vals.length (s.vals.flatMap encM)) := own_lower hu1 hs2
  have O2 : Hid (w4.ownsRow W0.heap.size 62 2 (.slice ya s.mail.length yc) s.mail.length (s.mail.flatMap encM)) := own_lower hu2 hs2
  clear hu1 hu2 hb4 hs2 R2 CD
  obtain ⟨m0, m1, m2, m3, m4⟩ := (HK.out _ A4.out).2.1.all5
  obtain ⟨f0, f1, f2, f3, f4⟩ := (HK.out _ A4.out).2.1.all5f
  have HX : Hid (P (.returned (.tuple #[.agg #[.int .i64 s.step, .int .i64 s.phase, .bool s.fresh, .slice ua s.vals.length uc, .slice ya s.mail.length yc], .int .i64 t2])) (putS w4 (w.heap.size + 1) (.int .i64 s.step) (.int .i64 s.phase) (.bool s.fresh) (.slice ua s.vals.length uc) (.slice ya s.mail.length yc))) := HE.out _ _ _ (own_lower (own_off O1.out (HK.out _ A4.out).2.1 (by decide) (kept_putS w4 (w.heap.size + 1) _ _ _ _ _)) (by omega)) (own_lower (own_off O2.out (HK.out _ A4.out).2.1 (by decide) (kept_putS w4 (w.heap.size + 1) _ _ _ _ _)) (by omega)) (below_putS (HK.out _ A4.out).2.2.1 (Nat.le_succ _) _ _ _ _ _)
  have RX : Hid (BX 28 (putS w4 (w.heap.size + 1) (.int .i64 s.step) (.int .i64 s.phase) (.bool s.fresh) (.slice ua s.vals.length uc) (.slice ya s.mail.length yc)) (w.heap.size + 1) #[.int .i64 s.step, .int .i64 s.phase, .bool s.fresh, .slice ua s.vals.length uc, .slice ya s.mail.length yc]) := BX.putS (HK.out _ A4.out).2.1
  go_wp2_with fail
  obtain ⟨r0, r1, r2, r3, r4⟩ := RX.out.all5
  unfold putS at r0 r1 r2 r3 r4
  exact bodyPost_ret (v := .tuple #[.agg #[.int .i64 s.step, .int .i64 s.phase, .bool s.fresh, .slice ua s.vals.length uc, .slice ya s.mail.length yc], .int .i64 t2]) (by simp [results, Tryz.results13, go_sem, r0, r1, r2, r3, r4]) rfl HX.out
end Go.Proofs.YtkgdenbabafeoaaGreatDoor
