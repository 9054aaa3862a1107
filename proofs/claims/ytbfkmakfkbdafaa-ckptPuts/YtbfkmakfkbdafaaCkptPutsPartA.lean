/-
  Rows, where a box of another type is written.
  Contract of the law's saveds: a copy.
  Contract of the law's own sameValues, of what reads alike.
  Contract of the law's own sameSaved, of what reads alike.
  An append of bytes, as it runs.
  Rows of the call's own that lie in other blocks.
  A region that draws its order, whose last operation waits for all others: the others in whatever order, then that one. (So the last one may store into what the others have read.)
  Calls in a region that draws its order: one whose result is told by a relation, one that gives up by a panic.
  Contract of the closure that writes numbers in ckpt.Encode.
  Contract of ckpt.Encode: what P14.2 says.
  Plain mathematics of P3: which disk may be, and where a name stands.
  Contracts of the document's own In and FileAt.
  Contract of the document's own DiskMay.
  The contract of bytes.Clone: a new slice with the same bytes.
  Contracts of disk's nameMayBe, fileMayBe and bytes.Clone.
  Contract of disk's mayBe: a disk at work may be, as P3.1 says; the names go into a map.
  Contracts of disk's find: its closure, slices.IndexFunc over it, and find itself: the place of a file, or -1.
  A disk that lies in memory of the call's own: its files' row, and a row of each file's data.
  Contract of the document's own Bytes: a copy in memory of its own.
  Contracts of the document's own Bytes and DiskCopy: copies in memory of their own.
  Contract of disk's copyFiles: the files of a disk at work are laid anew, in memory of the call's own.
  Contract of disk's changed, whatever change it is handed: by that change's own contract.
  One cell of a file is written: what the disk reads as then.
  What the faces of disk's changes have in common.
  Contract of slices.Delete over files, at one file: the others stand in their order.
  Contracts of disk.Remove and of what it does: what P3.7 says.
  Contracts of disk.Append and of what it does: what P3.2 says.
  Contract of ckpt.Put: P14.5.
  Contracts of the document's own MailAhead and IsOrdered; an insertion in plain mathematics.
  Contracts of the document's own ValueMay (at Dist) and SavedMay.
  Contracts of frame.Sum and of the document's own sum, told bit by bit: both answer P2.1.
  Contract of pacelineref.Packed: it returns the bytes of P1.1 in memory of its own; nothing else is written.
  Contract of the document's own frame: that of P2.2 in memory of its own, or the error; nothing else is written.
  Rows of numbers of the call's own: a number in them, a store into them.
-/
import Derived.Test.YtbfkmakfkbdafaaBoxMem
import Derived.Test.YtbfkmakfkbdafaaValMem
import Derived.Test.YtbfkmakfkbdafaaMailSame
import Derived.Test.YtbfkmakfkbdafaaSavedOpen
import Derived.Test.YtbfkmakfkbdafaaSavedMayP
import Derived.Deep.CutRange
import Derived.Test.YtbfkmakfkbdafaaTwoMem
import Derived.Deep.QuietTactic
import Derived.BigQuiet
import Derived.Lib.QuietBelow
import Derived.Test.YtbfkmakfkbdafaaBase
import Derived.Laws.AppendOwnNone
import Derived.Test.YtbfkmakfkbdafaaKeptMem
import Derived.Test.YtbfkmakfkbdafaaRowBase
import Derived.Deep.RegionHeld3
import Derived.Test.YtbfkmakfkbdafaaSavedMath
import Derived.Test.YtbfkmakfkbdafaaPutWalk
import Derived.Shelf.Abstract
import Derived.Test.YtbfkmakfkbdafaaDiskMem
import Derived.Test.YtbfkmakfkbdafaaInWalk
import Derived.Lib.Walk
import Derived.Maps.OwnSet
import Derived.BigRegion
import Derived.Deep.DeepMust
import Derived.Test.YtbfkmakfkbdafaaAppendRun
import Derived.Deep.RegionWith
import Derived.Test.YtbfkmakfkbdafaaMailMath
import Derived.Test.YtbfkmakfkbdafaaMayMail
import Derived.Test.YtbfkmakfkbdafaaSumWalk
import Derived.Test.YtbfkmakfkbdafaaWrapWalk
import Derived.Test.YtbfkmakfkbdafaaRowNew

namespace Go.Proofs.Ytbfkmakfkbdafaa
set_option maxRecDepth 100000
open Go.ChangeShapes Go.WideShapes Go.ChangeAt Go.RowKit

theorem own_off {t : TypeId} {w w' : World} {q base n size : Nat} {el : TypeId} {v : Value} {xs : List Value} {cs : Array Value} (ho : w.ownsRow base el size v n xs) (hq : BX t w q cs) (hne : el ≠ t) (hk : Kept (fun k => k = q) w w') : w'.ownsRow base el size v n xs := hk.own ho fun _ hg => own_block ho hg hq hne
end Go.Proofs.Ytbfkmakfkbdafaa

namespace Go.Proofs.Ytbfkmakfkbdafaa
set_option maxRecDepth 100000
open Go.ChangeShapes Go.WideShapes Go.ChangeAt Go.RowKit

def putS (w : World) (q : Nat) (a b c d e : Value) : World := ((((w.setCell ⟨q, 0, none⟩ a).setCell ⟨q, 1, none⟩ b).setCell ⟨q, 2, none⟩ c).setCell ⟨q, 3, none⟩ d).setCell ⟨q, 4, none⟩ e
theorem BX.putS {t : TypeId} {w : World} {q : Nat} {a b c d e x1 x2 x3 x4 x5 : Value} (h : BX t w q #[a, b, c, d, e]) : BX t (putS w q x1 x2 x3 x4 x5) q #[x1, x2, x3, x4, x5] := ((((h.set 0 x1).set 1 x2).set 2 x3).set 3 x4).set 4 x5
theorem kept_putS (w : World) (q : Nat) (a b c d e : Value) : Kept (fun k => k = q) w (Go.Proofs.Ytbfkmakfkbdafaa.putS w q a b c d e) := ((((Kept.box _ _ _ _).trans (Kept.box _ _ _ _)).trans (Kept.box _ _ _ _)).trans (Kept.box _ _ _ _)).trans (Kept.box _ _ _ _)
theorem BX.all5f {t : TypeId} {w : World} {q : Nat} {a b c d e : Value} (h : BX t w q #[a, b, c, d, e]) : w.frozen? ⟨q, 0, none⟩ = false ∧ w.frozen? ⟨q, 1, none⟩ = false ∧ w.frozen? ⟨q, 2, none⟩ = false ∧ w.frozen? ⟨q, 3, none⟩ = false ∧ w.frozen? ⟨q, 4, none⟩ = false := ⟨h.frozen 0, h.frozen 1, h.frozen 2, h.frozen 3, h.frozen 4⟩

set_option maxHeartbeats 1000000 in
set_option maxRecDepth 100000 in
theorem saveds_any (s : SvS) (vv vm : Value) (w : World) (hv : MlR w vv s.vals) (hm : MlR w vm s.mail) (hB : SavB s) :
    Calls Try.prog 6 #[.agg #[.int .i64 s.step, .int .i64 s.phase, .bool s.fresh, vv, vm]] w fun e w' => ∃ v1 v2, e = .returned (.agg #[.int .i64 s.step, .int .i64 s.phase, .bool s.fresh, v1, v2]) ∧ w'.ownsRow w.heap.size 52 2 v1 s.vals.length (s.vals.flatMap encM) ∧ w'.ownsRow w.heap.size 54 2 v2 s.mail.length (s.mail.flatMap encM) ∧ Below w.heap.size w w' := by
  have HV : Hid (MlR w vv s.vals) := hv
  have HM : Hid (MlR w vm s.mail) := hm
  have hl1 := hB.1.2
  have hl2 := hB.2.2
  obtain ⟨va, vc, rfl, hvc, hvm, _, _⟩ := hv
  obtain ⟨ma, mc, rfl, hmc, hmm, _, _⟩ := hm
  unfold maxLen at hvm hmm
  obtain ⟨W0, hW0⟩ : ∃ W0, W0 = (w.alloc (.cells #[.int .i64 s.step, .int .i64 s.phase, .bool s.fresh, .slice va s.vals.length vc, .slice ma s.mail.length mc] 25)).alloc (.cells #[.int .i64 0, .int .i64 0, .bool false, .slice none 0 0, .slice none 0 0] 25) := ⟨_, rfl⟩
  obtain ⟨Q0, T0, B0, s1, s2⟩ := boxes2 w #[.int .i64 s.step, .int .i64 s.phase, .bool s.fresh, .slice va s.vals.length vc, .slice ma s.mail.length mc] #[.int .i64 0, .int .i64 0, .bool false, .slice none 0 0, .slice none 0 0] 25 25 W0 hW0
  have BH : Hid (Below w.heap.size w W0) := B0
  have Z0 : Hid (BX 25 W0 (w.heap.size + 1) #[.int .i64 0, .int .i64 0, .bool false, .slice none 0 0, .slice none 0 0]) := T0
  have X0 : Hid (BX 25 W0 w.heap.size #[.int .i64 s.step, .int .i64 s.phase, .bool s.fresh, .slice va s.vals.length vc, .slice ma s.mail.length mc]) := Q0
  have V0 : Hid (MlR W0 (.slice va s.vals.length vc) s.vals) := HV.out.below BH.out (Nat.le_refl _)
  have M0 : Hid (MlR W0 (.slice ma s.mail.length mc) s.mail) := HM.out.below BH.out (Nat.le_refl _)
  obtain ⟨c0, c1, c2, c3, c4⟩ := Q0.all5
  clear Q0 T0 B0 hB
  go_enter Try.func6, Try.ntmps6
  go_upto_region 1 with fail
  rw [← hW0]
  clear hW0
  go_wp2_with (at_builtin; refine wpList_append_rowK kV rfl _ _ rfl W0.heap.size _ ([] : List Ml) rfl (World.ownsRow_nil _ _ _ _) _ s.vals rfl V0.out ?d1 ?d2 (Nat.le_refl _) ?_)
  case d1 => simp [kV]; omega
  case d2 => simp [maxLen]; omega
  intro v1 w1 hown hb1 _
  have hv1 : w1.ownsRow W0.heap.size 52 2 v1 s.vals.length (s.vals.flatMap encM) := by simpa [kV] using hown
  obtain ⟨a1, n1, k1, rfl⟩ : ∃ a n c, v1 = .slice a n c := by
    rcases own_shapeK hv1 with ⟨e, _⟩ | ⟨g', c', e, _⟩
    · exact ⟨_, _, _, e⟩
    · exact ⟨_, _, _, e⟩
  have hs1 := hb1.size
  have x1 := X0.out.below hb1 (by omega)
  have z1 := Z0.out.below hb1 (by omega)
  obtain ⟨d0, d1, d2, d3, d4⟩ := x1.all5
  obtain ⟨_, _, _, f3, _⟩ := x1.all5f
  have X1 : Hid (BX 25 (w1.setCell ⟨w.heap.size, 3, none⟩ (.slice a1 n1 k1)) w.heap.size #[.int .i64 s.step, .int .i64 s.phase, .bool s.fresh, .slice a1 n1 k1, .slice ma s.mail.length mc]) := x1.set 3 _
  have Z1 : Hid (BX 25 (w1.setCell ⟨w.heap.size, 3, none⟩ (.slice a1 n1 k1)) (w.heap.size + 1) #[.int .i64 0, .int .i64 0, .bool false, .slice none 0 0, .slice none 0 0]) := z1.other (by omega)
  have O1 : Hid ((w1.setCell ⟨w.heap.size, 3, none⟩ (.slice a1 n1 k1)).ownsRow W0.heap.size 52 2 (.slice a1 n1 k1) s.vals.length (s.vals.flatMap encM)) := x1.own hv1 (by decide)
  have B1 : Hid (Below w.heap.size w (w1.setCell ⟨w.heap.size, 3, none⟩ (.slice a1 n1 k1))) := (BH.out.trans (hb1.mono (by omega))).setCell (by simp) _
  clear hown hv1 hb1 x1 z1 c0 c1 c2 c3 c4
  go_upto_region 2 with fail
  clear d0 d1 d2 d3 d4 f3
  have hsz : (w1.setCell ⟨w.heap.size, 3, none⟩ (.slice a1 n1 k1)).heap.size = w1.heap.size := by simp
  generalize w1.setCell ⟨w.heap.size, 3, none⟩ (.slice a1 n1 k1) = w2 at *
  obtain ⟨c0, c1, c2, c3, c4⟩ := X1.out.all5
  go_wp2_with fail
  refine (mails_any _ s.mail w2 (HM.out.below B1.out (Nat.le_refl _)) hl2).mono ?_
  rintro e w3 ⟨v2, rfl, hv2, hb3⟩
  obtain ⟨a2, n2, k2, rfl⟩ : ∃ a n c, v2 = .slice a n c := by
    rcases own_shapeK hv2 with ⟨e, _⟩ | ⟨g', c', e, _⟩
    · exact ⟨_, _, _, e⟩
    · exact ⟨_, _, _, e⟩
  have hs3 := hb3.size
  have x3 := X1.out.below hb3 (by omega)
  have z3 := Z1.out.below hb3 (by omega)
  have o3 := own_below O1.out hb3 (Nat.le_refl _)
  obtain ⟨d0, d1, d2, d3, d4⟩ := x3.all5
  obtain ⟨_, _, _, _, f4⟩ := x3.all5f
  have X3 : Hid (BX 25 (w3.setCell ⟨w.heap.size, 4, none⟩ (.slice a2 n2 k2)) w.heap.size #[.int .i64 s.step, .int .i64 s.phase, .bool s.fresh, .slice a1 n1 k1, .slice a2 n2 k2]) := x3.set 4 _
  have Z3 : Hid (BX 25 (w3.setCell ⟨w.heap.size, 4, none⟩ (.slice a2 n2 k2)) (w.heap.size + 1) #[.int .i64 0, .int .i64 0, .bool false, .slice none 0 0, .slice none 0 0]) := z3.other (by omega)
  have O3 : Hid ((w3.setCell ⟨w.heap.size, 4, none⟩ (.slice a2 n2 k2)).ownsRow W0.heap.size 52 2 (.slice a1 n1 k1) s.vals.length (s.vals.flatMap encM)) := x3.own o3 (by decide)
  have P3 : Hid ((w3.setCell ⟨w.heap.size, 4, none⟩ (.slice a2 n2 k2)).ownsRow w2.heap.size 54 2 (.slice a2 n2 k2) s.mail.length (s.mail.flatMap encM)) := x3.own hv2 (by decide)
  have B3 : Hid (Below w.heap.size w (w3.setCell ⟨w.heap.size, 4, none⟩ (.slice a2 n2 k2))) := (B1.out.trans (hb3.mono (by omega))).setCell (by simp) _
  clear hv2 hb3 x3 z3 o3 c0 c1 c2 c3 c4
  go_upto_region 3 with fail
  clear d0 d1 d2 d3 d4 f4
  generalize w3.setCell ⟨w.heap.size, 4, none⟩ (.slice a2 n2 k2) = w4 at *
  have RX : Hid (BX 25 (putS w4 (w.heap.size + 1) (.int .i64 s.step) (.int .i64 s.phase) (.bool s.fresh) (.slice a1 n1 k1) (.slice a2 n2 k2)) (w.heap.size + 1) #[.int .i64 s.step, .int .i64 s.phase, .bool s.fresh, .slice a1 n1 k1, .slice a2 n2 k2]) := Z3.out.putS
  have VE : Hid ((putS w4 (w.heap.size + 1) (.int .i64 s.step) (.int .i64 s.phase) (.bool s.fresh) (.slice a1 n1 k1) (.slice a2 n2 k2)).ownsRow w.heap.size 52 2 (.slice a1 n1 k1) s.vals.length (s.vals.flatMap encM)) := own_lower (own_off O3.out Z3.out (by decide) (kept_putS w4 (w.heap.size + 1) _ _ _ _ _)) (by omega)
  have ME : Hid ((putS w4 (w.heap.size + 1) (.int .i64 s.step) (.int .i64 s.phase) (.bool s.fresh) (.slice a1 n1 k1) (.slice a2 n2 k2)).ownsRow w.heap.size 54 2 (.slice a2 n2 k2) s.mail.length (s.mail.flatMap encM)) := own_lower (own_off P3.out Z3.out (by decide) (kept_putS w4 (w.heap.size + 1) _ _ _ _ _)) (by omega)
  have BE : Hid (Below w.heap.size w (putS w4 (w.heap.size + 1) (.int .i64 s.step) (.int .i64 s.phase) (.bool s.fresh) (.slice a1 n1 k1) (.slice a2 n2 k2))) := ((((B3.out.setCell (by simp) _).setCell (by simp) _).setCell (by simp) _).setCell (by simp) _).setCell (by simp) _
  obtain ⟨d0, d1, d2, d3, d4⟩ := X3.out.all5
  obtain ⟨e0, e1, e2, e3, e4⟩ := Z3.out.all5
  obtain ⟨f0, f1, f2, f3, f4⟩ := Z3.out.all5f
  go_wp2_with fail
  obtain ⟨r0, r1, r2, r3, r4⟩ := RX.out.all5
  unfold putS at r0 r1 r2 r3 r4
  exact bodyPost_ret (v := .agg #[.int .i64 s.step, .int .i64 s.phase, .bool s.fresh, .slice a1 n1 k1, .slice a2 n2 k2]) (by simp [results, Try.results6, go_sem, r0, r1, r2, r3, r4]) rfl ⟨_, _, rfl, VE.out, ME.out, BE.out⟩
end Go.Proofs.Ytbfkmakfkbdafaa

namespace Go.Proofs.Ytbfkmakfkbdafaa
set_option maxRecDepth 100000
open Go.ChangeShapes Go.WideShapes Go.ChangeAt Go.RowKit

set_option maxHeartbeats 1000000 in
set_option maxRecDepth 100000 in
theorem sameVals_yes (va vb : Value) (vs : List Ml) (w : World) (ha : MlR w va vs) (hb : MlR w vb vs) :
    Calls Try.prog 26 #[va, vb] w fun e w' => e = .returned (.bool true) ∧ Below w.heap.size w w' := by
  have HA : Hid (MlR w va vs) := ha
  have HB : Hid (MlR w vb vs) := hb
  obtain ⟨a, ca, rfl, hca, hma, _, _⟩ := ha
  obtain ⟨b, cb, rfl, hcb, hmb, _, _⟩ := hb
  unfold maxLen at hma hmb
  have hll : ((vs.length : Int) != (vs.length : Int)) = false := by simp
  go_enter Try.func26, Try.ntmps26
  go_wp2_with fail
  go_loopw [5] (fun i wr => ∃ k : Nat, k ≤ vs.length ∧ i = .int .i64 k ∧ Below w.heap.size w wr) (fun i _ => vs.length - (intOf i).toNat)
  case atStart => exact ⟨0, by omega, rfl, Below.refl _ _⟩
  case round =>
    obtain ⟨k, hk, rfl, hbel⟩ := hrel
    have HBL : Hid (Below w.heap.size w wr) := hbel
    clear hbel
    by_cases hlt : k < vs.length
    · obtain ⟨xa, oa, cap', e1, _, _, la, hva⟩ := MlR.at (HA.out.below HBL.out (Nat.le_refl _)) (by omega)
      injection e1 with e1 _ e3
      subst e1 e3
      obtain ⟨xb, ob, cap', e1, _, _, lb, hvb⟩ := MlR.at (HB.out.below HBL.out (Nat.le_refl _)) (by omega)
      injection e1 with e1 _ e3
      subst e1 e3
      obtain ⟨x, hx⟩ := getX hlt
      have p0 : (0 : Int) ≤ (k : Int) := by omega
      have p1 : (k : Int) < (vs.length : Int) := by omega
      obtain ⟨c1, c2⟩ := hva k x hx
      obtain ⟨d1, d2⟩ := hvb k x hx
      obtain ⟨x1, x2⟩ := x
      simp only at c1 c2 d1 d2
      clear hva hvb hx
      go_wp2_with fail
      go_quiet (fail)
      go_wp2_with fail
      go_roundw
      case rel => exact ⟨k + 1, by omega, by go_num, below_drewN HBL.out _⟩
      case measure => simp [intOf]; omega
    · go_wp2_with fail
      go_ret
      exact ⟨rfl, HBL.out⟩

end Go.Proofs.Ytbfkmakfkbdafaa

namespace Go.Proofs.Ytbfkmakfkbdafaa
set_option maxRecDepth 100000
open Go.ChangeShapes Go.WideShapes Go.ChangeAt Go.RowKit

theorem encS_bd (s : SvS) : ∀ x ∈ (encS s).1, 0 ≤ x ∧ x ≤ 255 := by
  cases h : svMay s with
  | false => rw [encS_no h]; intro x hx; cases hx
  | true =>
    by_cases h2 : (bytN (numsS s)).length ≤ 20000
    · rw [encS_yes h h2]
      exact wrap_bytes (bytN_bytes fun n hn => ⟨(numsS_in h n hn).1, by have := (numsS_in h n hn).2; omega⟩) h2
    · rw [encS_big h h2]; intro x hx; cases hx

set_option maxHeartbeats 2000000 in
set_option maxRecDepth 100000 in
theorem sameSaved_yes (s : SvS) (va vb vma vmb : Value) (w : World) (ha : MlR w va s.vals) (hb : MlR w vb s.vals) (hma : MlR w vma s.mail) (hmb : MlR w vmb s.mail) :
    Calls Try.prog 10 #[.agg #[.int .i64 s.step, .int .i64 s.phase, .bool s.fresh, va, vma], .agg #[.int .i64 s.step, .int .i64 s.phase, .bool s.fresh, vb, vmb]] w fun e w' => e = .returned (.bool true) ∧ Below w.heap.size w w' := by
  have HA : Hid (MlR w va s.vals) := ha
  have HB : Hid (MlR w vb s.vals) := hb
  have HMA : Hid (MlR w vma s.mail) := hma
  have HMB : Hid (MlR w vmb s.mail) := hmb
  obtain ⟨a, ca, rfl⟩ := ha.shape
  obtain ⟨b, cb, rfl⟩ := hb.shape
  obtain ⟨ma, mca, rfl⟩ := hma.shape
  obtain ⟨mb, mcb, rfl⟩ := hmb.shape
  clear ha hb hma hmb
  obtain ⟨W0, hW0⟩ : ∃ W0, W0 = (w.alloc (.cells #[.int .i64 s.step, .int .i64 s.phase, .bool s.fresh, .slice a s.vals.length ca, .slice ma s.mail.length mca] 25)).alloc (.cells #[.int .i64 s.step, .int .i64 s.phase, .bool s.fresh, .slice b s.vals.length cb, .slice mb s.mail.length mcb] 25) := ⟨_, rfl⟩
  obtain ⟨Q0, T0, B0, s1, s2⟩ := boxes2 w #[.int .i64 s.step, .int .i64 s.phase, .bool s.fresh, .slice a s.vals.length ca, .slice ma s.mail.length mca] #[.int .i64 s.step, .int .i64 s.phase, .bool s.fresh, .slice b s.vals.length cb, .slice mb s.mail.length mcb] 25 25 W0 hW0
  have BH : Hid (Below w.heap.size w W0) := B0
  have HK : Hid (∀ X, Below W0.heap.size W0 X → BX 25 X w.heap.size #[.int .i64 s.step, .int .i64 s.phase, .bool s.fresh, .slice a s.vals.length ca, .slice ma s.mail.length mca] ∧ BX 25 X (w.heap.size + 1) #[.int .i64 s.step, .int .i64 s.phase, .bool s.fresh, .slice b s.vals.length cb, .slice mb s.mail.length mcb] ∧ Below w.heap.size w X) := fun X hX => ⟨Q0.below hX (by omega), T0.below hX (by omega), BH.out.trans (hX.mono (by omega))⟩
  have A0 : Hid (Below W0.heap.size W0 W0) := Below.refl _ _
  obtain ⟨q0, q1, q2, q3, q4⟩ := Q0.all5
  obtain ⟨p0, p1, p2, p3, p4⟩ := T0.all5
  have t0 : (s.step == s.step) = true := by simp
  have t1 : (s.phase == s.phase) = true := by simp
  have t2 : (s.fresh == s.fresh) = true := by simp
  have CV : Hid (∀ X, Below W0.heap.size W0 X → Calls Try.prog 26 #[.slice a s.vals.length ca, .slice b s.vals.length cb] X fun e w' => e = .returned (.bool true) ∧ Below X.heap.size X w') := fun X hX => sameVals_yes _ _ s.vals X (HA.out.below (HK.out X hX).2.2 (Nat.le_refl _)) (HB.out.below (HK.out X hX).2.2 (Nat.le_refl _))
  have CM : Hid (∀ X, Below W0.heap.size W0 X → Calls Try.prog 27 #[.slice ma s.mail.length mca, .slice mb s.mail.length mcb] X fun e w' => e = .returned (.bool true) ∧ Below X.heap.size X w') := fun X hX => sameMails_yes _ _ s.mail X (HMA.out.below (HK.out X hX).2.2 (Nat.le_refl _)) (HMB.out.below (HK.out X hX).2.2 (Nat.le_refl _))
  clear Q0 T0 B0 HA HB HMA HMB
  go_enter Try.func10, Try.ntmps10
  go_upto_region 1 with fail
  rw [← hW0]
  clear hW0
  go_wp2_with fail
  refine (CV.out _ A0.out).mono ?_
  rintro e w1 ⟨rfl, hb1⟩
  have A1 : Hid (Below W0.heap.size W0 w1) := hb1
  have hs1 := hb1.size
  obtain ⟨QA, QB, _⟩ := HK.out _ hb1
  clear q0 q1 q2 q3 q4 p0 p1 p2 p3 p4 hb1
  obtain ⟨q0, q1, q2, q3, q4⟩ := QA.all5
  obtain ⟨p0, p1, p2, p3, p4⟩ := QB.all5
  clear QA QB
  go_wp2_with fail
  refine (CM.out _ A1.out).mono ?_
  rintro e w2 ⟨rfl, hb2⟩
  have A2 : Hid (Below w.heap.size w w2) := (HK.out _ (A1.out.trans (hb2.mono hs1))).2.2
  clear q0 q1 q2 q3 q4 p0 p1 p2 p3 p4 hb2
  go_wp2_with fail
  go_ret
  exact ⟨rfl, A2.out⟩
end Go.Proofs.Ytbfkmakfkbdafaa

namespace Go.Proofs.Ytbfkmakfkbdafaa
set_option maxRecDepth 100000
open Go.ChangeShapes Go.WideShapes Go.ChangeAt Go.RowKit

/-- What an append of bytes that read comes to. -/
theorem run_append_byt {w : World} (ty : TypeId) (base : Nat) (v : Value) (xs : List Int) (hown : w.ownsRow base 5 1 v xs.length (xs.map (Value.int .u8)))
    (v2 : Value) (ys : List Int) (hr : Reads .u8 w v2 ys) (hlen : xs.length + ys.length ≤ 140737488355328) (hbase : base ≤ w.heap.size) :
    ∃ v' w', (Builtin.append_ #[27, 27] ty #[v, v2]).run Try.prog w = .ok v' w' ∧ w'.ownsRow base 5 1 v' (xs ++ ys).length ((xs ++ ys).map (Value.int .u8)) ∧ w.grownBy w' v.ownBlock := by
  obtain ⟨i0, hi, hz0, hz1, hz2⟩ := info_parts Try.info5
  obtain ⟨ad, cap, rfl, hc, hm, ha, hcell⟩ := hr
  cases ad with
  | none =>
    have hcap := ha rfl
    have : ys = [] := List.eq_nil_of_length_eq_zero (by omega)
    subst this
    subst hcap
    have h := run_append_owned_none (P := Try.prog) (w := w) base 27 ty 5 i0 1 Try.underlying27 hi v _ _ hown
    exact ⟨v, w, h, by simpa using hown, World.grownBy.refl _ _⟩
  | some p =>
    obtain ⟨v', w', h1, h2, h3, _⟩ := run_append_own w base 27 ty 5 i0 (.int .u8 0) 1 1 Try.underlying27 hi hz0 hz1 hz2 rfl (by decide) v _ _ hown p ys.length cap (ys.map (Value.int .u8)) (by simp)
      (fun j u hj => by
        obtain ⟨hj1, rfl⟩ := getD_map hj
        exact hcell p rfl j hj1) (bytes_oneCell _) (by unfold maxLen; omega) (by omega) hbase
    exact ⟨v', w', h1, by simpa using h2, h3⟩
end Go.Proofs.Ytbfkmakfkbdafaa

namespace Go.Proofs.Ytbfkmakfkbdafaa
set_option maxRecDepth 100000
open Go.ChangeShapes Go.WideShapes Go.ChangeAt Go.RowKit

theorem own_ge {w : World} {base n size g : Nat} {e : TypeId} {v : Value} {xs : List Value} (h : w.ownsRow base e size v n xs) (hg : v.ownBlock = some g) : base ≤ g ∧ g < w.heap.size := h.lt g hg
/-- Two slices lie in other blocks. -/
def Apt (v u : Value) : Prop := ∀ g, v.ownBlock = some g → u.ownBlock = some g → False
theorem Apt.symm {v u : Value} (h : Apt v u) : Apt u v := fun g h1 h2 => h g h2 h1
theorem Apt.or {v u : Value} (h : Apt v u) : v.ownBlock = none ∨ v.ownBlock ≠ u.ownBlock := by
  cases hv : v.ownBlock with
  | none => exact .inl rfl
  | some g => exact .inr fun e => h g hv e.symm
theorem Apt.nil (u : Value) : Apt (.slice none 0 0) u := fun g h _ => by cases h
/-- A row that lay apart from one that has grown. -/
theorem Apt.grown {w : World} {v u : Value} {g n c : Nat} {base : Nat} {e : TypeId} {size m : Nat} {xs : List Value} (h : Apt v u) (hl : v.ownBlock = some g ∨ g = w.heap.size) (hu : w.ownsRow base e size u m xs) : Apt (.slice (some ⟨g, 0, none⟩) n c) u := by
  intro q h1 h2
  injection h1 with h1
  have h1' : g = q := h1
  subst h1'
  rcases hl with h3 | h3
  · exact h g h3 h2
  · have := (own_ge hu h2).2
    omega
end Go.Proofs.Ytbfkmakfkbdafaa

namespace Go.Proofs.Ytbfkmakfkbdafaa
set_option maxRecDepth 100000
open Go.RowKit

/-- What the others must come to. -/
def postLast (P : Program) (o : Oper) (Q : Exit → Act → World → Prop) : Exit → Act → World → Prop
  | .normal, a, w => o.wp P a w (fun a' w' => Q .normal a' w') Q
  | e, a, w => Q e a w

/-- Each of the others waits for earlier ones alone; the last one waits for all. -/
def lastOK (md : Region.Mode) (ops : Array Oper) (o : Oper) : Bool :=
  o.guard.isNone && (List.range ops.size).all fun i =>
    (match ops[i]? with
      | some x => x.guard.isNone && x.after.toList.all (fun e => !Region.binds md e || decide (e.on < i))
      | none => false) && o.after.toList.any (fun e => Region.binds md e && e.on == i)
def lastIn (md : Region.Mode) (n : Nat) (o : Oper) : Bool := o.after.toList.all fun e => !Region.binds md e || decide (e.on < n)

section
variable {P : Program} {md : Region.Mode} {ops : Array Oper} {o : Oper} {Q : Exit → Act → World → Prop}

theorem wp_postLast {x : Oper} {a : Act} {w : World} {K : Act → World → Prop} (h : x.wp P a w K (postLast P o Q)) : x.wp P a w K Q := by
  unfold Oper.wp at *
  generalize (execOp a.eval x).run P w = r at *
  cases r with
  | ok n w' => cases n <;> exact h
  | halt e w' => cases e <;> exact h
theorem letsOut_postLast (h : LetsOut (postLast P o Q)) : LetsOut Q := h

theorem lastOK_guard (h : lastOK md ops o = true) : o.guard = none := by
  unfold lastOK at h
  rw [Bool.and_eq_true] at h
  simpa using h.1
theorem lastOK_at (h : lastOK md ops o = true) {i : Nat} {x : Oper} (hx : ops[i]? = some x) : x.guard = none ∧ (∀ e ∈ x.after, Region.binds md e = true → e.on < i) ∧ ∃ e ∈ o.after, Region.binds md e = true ∧ e.on = i := by
  unfold lastOK at h
  rw [Bool.and_eq_true] at h
  have hi : i < ops.size := (Array.getElem?_eq_some_iff.1 hx).1
  have := List.all_eq_true.1 h.2 i (List.mem_range.2 hi)
  rw [hx] at this
  simp only [Bool.and_eq_true] at this
  obtain ⟨⟨h1, h2⟩, h3⟩ := this
  refine ⟨by simpa using h1, fun e he hb => ?_, ?_⟩
  · have := List.all_eq_true.1 h2 e (Array.mem_toList_iff.2 he)
    rw [hb] at this
    simpa using this
  · obtain ⟨e, he, hb⟩ := List.any_eq_true.1 h3
    simp only [Bool.and_eq_true, beq_iff_eq] at hb
    exact ⟨e, Array.mem_toList_iff.1 he, hb.1, hb.2⟩

theorem getD_push_lt {l : Array Bool} {b d : Bool} {j : Nat} (h : j < l.size) : (l.push b).getD j d = l.getD j d := by
  simp [Array.getD, Array.getElem_push_lt h, h, Nat.lt_succ_of_lt h]
theorem getD_push_eq {l : Array Bool} {b d : Bool} : (l.push b).getD l.size d = b := by simp [Array.getD]
theorem getD_dflt {l : Array Bool} {j : Nat} (h : j < l.size) (d d' : Bool) : l.getD j d = l.getD j d' := by simp [Array.getD, h]

theorem ready_push {l : Array Bool} {b : Bool} (hs : l.size = ops.size) (h : lastOK md ops o = true) {j : Nat} (hj : j < ops.size) : j ∈ Region.ready md (ops.push o) (l.push b) ↔ j ∈ Region.ready md ops l := by
  rw [mem_ready, mem_ready, getD_push_lt (by omega)]
  have e : (ops.push o)[j]? = ops[j]? := by simp [Array.getElem?_push, Nat.ne_of_lt hj]
  rw [e]
  refine and_congr_right fun _ => ⟨?_, ?_⟩
  · rintro ⟨x, hx, ha⟩
    refine ⟨x, hx, fun e he hb => ?_⟩
    have := (lastOK_at h hx).2.1 e he hb
    have h2 := ha e he hb
    rwa [getD_push_lt (by omega)] at h2
  · rintro ⟨x, hx, ha⟩
    refine ⟨x, hx, fun e he hb => ?_⟩
    have := (lastOK_at h hx).2.1 e he hb
    rw [getD_push_lt (by omega)]
    exact ha e he hb
/-- Where nothing may come up, all have. -/
theorem ready_all {l : Array Bool} (hs : l.size = ops.size) (h : lastOK md ops o = true) (h0 : Region.ready md ops l = []) : ∀ j, j < ops.size → l.getD j false = true := by
  intro j
  induction j using Nat.strongRecOn with
  | _ j ih =>
    intro hj
    cases hl : l.getD j false
    · exfalso
      have : j ∈ Region.ready md ops l := by
        rw [mem_ready]
        refine ⟨by rw [getD_dflt (by omega) true false]; exact hl, ops[j], by simp [hj], fun e he hb => ?_⟩
        have := (lastOK_at h (Array.getElem?_eq_getElem hj)).2.1 e he hb
        exact ih e.on this (by omega)
      rw [h0] at this
      cases this
    · rfl
theorem ready_last {l : Array Bool} (hs : l.size = ops.size) (hin : lastIn md ops.size o = true) (hall : ∀ j, j < ops.size → l.getD j false = true) : ops.size ∈ Region.ready md (ops.push o) (l.push false) := by
  rw [mem_ready]
  refine ⟨by rw [← hs]; exact getD_push_eq, o, by simp, fun e he hb => ?_⟩
  have := List.all_eq_true.1 hin e (Array.mem_toList_iff.2 he)
  rw [hb] at this
  have hlt : e.on < ops.size := by simpa using this
  rw [getD_push_lt (by omega)]
  exact hall e.on hlt
theorem last_ready {l : Array Bool} (hs : l.size = ops.size) (h : lastOK md ops o = true) (hr : ops.size ∈ Region.ready md (ops.push o) (l.push false)) : Region.ready md ops l = [] := by
  rw [mem_ready] at hr
  obtain ⟨_, x, hx, ha⟩ := hr
  have ex : x = o := by simpa using hx.symm
  subst ex
  refine List.eq_nil_iff_forall_not_mem.2 fun j hj => ?_
  rw [mem_ready] at hj
  obtain ⟨h1, y, hy, _⟩ := hj
  have hjn : j < ops.size := (Array.getElem?_eq_some_iff.1 hy).1
  obtain ⟨_, _, e, he, hb, hon⟩ := lastOK_at h hy
  have := ha e he hb
  rw [hon, getD_push_lt (by omega), getD_dflt (by omega) false true, h1] at this
  cases this
theorem ready_done {l : Array Bool} (hs : l.size = ops.size) (h : lastOK md ops o = true) (h0 : Region.ready md ops l = []) : Region.ready md (ops.push o) (l.push true) = [] := by
  refine List.eq_nil_iff_forall_not_mem.2 fun j hj => ?_
  rcases Nat.lt_or_ge j ops.size with hlt | hge
  · rw [ready_push hs h hlt, h0] at hj; cases hj
  · rw [mem_ready] at hj
    obtain ⟨h1, y, hy, _⟩ := hj
    have hjn := (Array.getElem?_eq_some_iff.1 hy).1
    have ej : j = l.size := by simp at hjn; omega
    rw [ej, getD_push_eq] at h1
    cases h1

theorem wpAny_end {l : Array Bool} {a : Act} {w : World} (h0 : Region.ready md ops l = []) (h : Q .normal a w) : ∀ fuel, wpAny P md ops Q fuel l a w
  | 0 => ⟨h0, h⟩
  | _ + 1 => ⟨fun _ => h, by rw [h0]; simp⟩

theorem wpOp_last {l : Array Bool} {a : Act} {w : World} (hs : l.size = ops.size) (h : lastOK md ops o = true) (h0 : Region.ready md ops l = []) (hq : postLast P o Q .normal a w) (fuel : Nat) :
    wpOp P (ops.push o) Q ops.size (wpAny P md (ops.push o) Q fuel ((l.push false).setIfInBounds ops.size true)) a w := by
  unfold wpOp
  have e : (ops.push o)[ops.size]? = some o := by simp
  simp only [e]
  have hw : Region.wanted o (yielded (ops.push o) a.tmps) = true := by simp [Region.wanted, lastOK_guard h]
  rw [if_pos hw]
  refine .inl (Oper.wp_mono (fun a' w' h' => ?_) hq)
  have e2 : (l.push false).setIfInBounds ops.size true = l.push true := by
    rw [← hs]
    refine Array.ext_getElem? fun i => ?_
    rw [Array.getElem?_setIfInBounds, Array.getElem?_push, Array.getElem?_push]
    by_cases hi : l.size = i
    · subst hi; simp
    · simp [hi, Ne.symm hi]
  rw [e2]
  exact wpAny_end (ready_done hs h h0) h' _

theorem wpAny_last (h : lastOK md ops o = true) (hin : lastIn md ops.size o = true) : ∀ (fuel : Nat) (l : Array Bool) (a : Act) (w : World), l.size = ops.size →
    wpAny P md ops (postLast P o Q) fuel l a w → wpAny P md (ops.push o) Q (fuel + 1) (l.push false) a w := by
  intro fuel
  induction fuel with
  | zero =>
    intro l a w hs hp
    obtain ⟨h0, hq⟩ := hp
    refine ⟨fun h1 => ?_, fun i hi => ?_⟩
    · have := ready_last hs hin (ready_all hs h h0)
      rw [h1] at this; cases this
    · rcases Nat.lt_or_ge i ops.size with hlt | hge
      · rw [ready_push hs h hlt, h0] at hi; cases hi
      · have ei : i = ops.size := by
          obtain ⟨_, y, hy, _⟩ := mem_ready.1 hi
          have := (Array.getElem?_eq_some_iff.1 hy).1
          simp at this; omega
        subst ei
        exact wpOp_last hs h h0 hq _
  | succ fuel ih =>
    intro l a w hs hp
    obtain ⟨hq, hop⟩ := hp
    refine ⟨fun h1 => ?_, fun i hi => ?_⟩
    · have h0 : Region.ready md ops l = [] := List.eq_nil_iff_forall_not_mem.2 fun j hj => by
        have hjn : j < ops.size := by
          obtain ⟨_, y, hy, _⟩ := mem_ready.1 hj
          exact (Array.getElem?_eq_some_iff.1 hy).1
        have := (ready_push (b := false) hs h hjn).2 hj
        rw [h1] at this; cases this
      have := ready_last hs hin (ready_all hs h h0)
      rw [h1] at this; cases this
    · rcases Nat.lt_or_ge i ops.size with hlt | hge
      · have hi0 := (ready_push hs h hlt).1 hi
        have h1 := hop i hi0
        unfold wpOp at h1 ⊢
        have e : (ops.push o)[i]? = some ops[i] := by simp [Array.getElem?_push, Nat.ne_of_lt hlt, hlt]
        have e0 : ops[i]? = some ops[i] := by simp [hlt]
        simp only [e]
        simp only [e0] at h1
        have hg := (lastOK_at h e0).1
        have hw : ∀ t, Region.wanted ops[i] t = true := fun t => by simp [Region.wanted, hg]
        rw [if_pos (hw _)] at h1 ⊢
        have e2 : (l.push false).setIfInBounds i true = (l.setIfInBounds i true).push false := by
          refine Array.ext_getElem? fun j => ?_
          rw [Array.getElem?_setIfInBounds, Array.getElem?_push, Array.getElem?_push, Array.getElem?_setIfInBounds, Array.size_setIfInBounds, Array.size_push]
          by_cases hj : i = j
          · subst hj
            have h1 : i < l.size := by omega
            have h2 : i < l.size + 1 := by omega
            have h3 : ¬ i = l.size := by omega
            simp [h1, h2, h3]
          · simp [hj]
        rw [e2]
        rcases h1 with h1 | ⟨h1, h2⟩
        · exact .inl (wp_postLast (Oper.wp_mono (fun a' w' h' => ih _ a' w' (by simpa using hs) h') h1))
        · exact .inr ⟨h1, letsOut_postLast h2⟩
      · have ei : i = ops.size := by
          obtain ⟨_, y, hy, _⟩ := mem_ready.1 hi
          have := (Array.getElem?_eq_some_iff.1 hy).1
          simp at this; omega
        subst ei
        have h0 := last_ready hs h hi
        exact wpOp_last hs h h0 (hq h0) _

/-- The law. -/
theorem region_last {id : Nat} {a : Act} {w : World} {S : World → Prop} (hm : P.follows .mixedOrders = true) (h : lastOK .any ops o = true) (hin : lastIn .any ops.size o = true)
    (hp : wpAnyH P .any ops (postLast P o Q) S ops.size (Array.replicate ops.size false) a w.drew) : (Code.region id (ops.push o) true).wp P Q a w := by
  refine wp_region_any hm ?_
  have e1 : (ops.push o).size = ops.size + 1 := by simp
  have e2 : Array.replicate (ops.size + 1) false = (Array.replicate ops.size false).push false := Array.replicate_succ
  rw [e1, e2]
  exact wpAny_last h hin _ _ _ _ (by simp) (wpAny_of_held _ _ _ _ hp)
/-- An operation is taken first; its slot is named. -/
theorem takeH {S : World → Prop} {i : Nat} {oi : Oper} {v : Value} {d : Tmp} {fuel : Nat} {listed : Array Bool} {a : Act} {w : World} (hi : ops[i]? = some oi) (hd : oi.dst = some d)
    (hs : Region.noSelect ops = true) (hf : Region.free md ops listed i = true) (hr : (Region.ready md ops listed).contains i = true)
    (hQ : ∀ c a w, Q (.panic c) (a.put (some d) v) w → Q (.panic c) a w) (hw : Region.wanted oi (yielded ops a.tmps) = true) (hy : ∀ w, S w → (execOp a.eval oi).run P w = .ok (.value v) w) (hS : S w)
    (h : wpAnyH P md ops Q S fuel (listed.setIfInBounds i true) (a.put (some d) v) w) : wpAnyH P md ops Q S (fuel + 1) listed a w :=
  wpAnyH_take hi hs hf hr (by rw [hd]; exact hQ) (.inl ⟨hw, hy⟩) hS (by rw [hd]; exact h)
/-- Just one operation may come up, and is carried out; S is had again behind it. -/
theorem oneH {S : World → Prop} {i : Nat} {oi : Oper} {fuel : Nat} {listed : Array Bool} {a : Act} {w : World} (hi : ops[i]? = some oi) (hr : Region.ready md ops listed = [i]) (hg : oi.guard = none)
    (h : oi.wp P a w (fun a' w' => S w' ∧ wpAnyH P md ops Q S fuel (listed.setIfInBounds i true) a' w') Q) : wpAnyH P md ops Q S (fuel + 1) listed a w := by
  refine wpAnyH_all hr (by simp) fun j hj => ?_
  obtain rfl : j = i := by simpa using hj
  unfold wpOp
  simp only [hi]
  rw [if_pos (by simp [Region.wanted, hg])]
  exact .inl h
/-- A call that leaves the world as it was. -/
theorem call_same {oi : Oper} {a : Act} {w : World} {K : Act → World → Prop} {d : Tmp} {f : FuncId} {xs : Array Operand} {ats : Array TypeId} (hd : oi.dst = some d) (hop : oi.op = Op.call { callee := Callee.value (.func f), args := xs, argTypes := ats })
    (he : ∀ args w, (callFunc f args).run P w = .ok (.enter f args) w) {vs : Array Value} (hxs : xs.map a.eval = vs) {v : Value} (hc : Calls P f vs w fun e w' => e = .returned v ∧ w' = w) (hK : K (a.put (some d) v) w) : oi.wp P a w K Q := by
  unfold Oper.wp
  have hr : (execOp a.eval oi).run P w = .ok (.enter f vs) w := by
    have h2 : xs.map a.eval = vs := hxs
    simp [execOp, hop, resolve, invoke, Act.eval, Deferred.ofValue]
    have h3 := he (xs.map a.eval) w
    rw [h2] at h3
    rw [← h2] at h3 ⊢
    exact h3
  rw [hr, Oper.upon_enter]
  exact hc.mono (by rintro e w' ⟨rfl, rfl⟩; rw [hd]; exact hK)
/-- An append whose run is known. -/
theorem call_append {oi : Oper} {a : Act} {w w' : World} {K : Act → World → Prop} {d : Tmp} {s x : Operand} {t : TypeId} (hd : oi.dst = some d) (hop : oi.op = Op.call { callee := Callee.builtin Builtin.append, args := #[s, x], argTypes := #[t, t] })
    {v v2 v' : Value} (hs : a.eval s = v) (hx : a.eval x = v2) (hrun : (Builtin.append_ #[t, t] oi.type #[v, v2]).run P w = .ok v' w') (hK : K (a.put (some d) v') w') : oi.wp P a w K Q := by
  unfold Oper.wp
  simp [execOp, hop, resolve, invoke, builtin, hs, hx, hrun, Result.andThen]
  rw [Oper.upon_value, hd]
  exact hK
/-- An operation whose run is known. -/
theorem op_run {oi : Oper} {a : Act} {w w' : World} {K : Act → World → Prop} {d : Tmp} {v' : Value} (hd : oi.dst = some d) (hrun : (execOp a.eval oi).run P w = .ok (.value v') w') (hK : K (a.put (some d) v') w') : oi.wp P a w K Q := by
  unfold Oper.wp
  rw [hrun, Oper.upon_value, hd]
  exact hK
/-- The same for a region that is written out. -/
theorem region_lastF {id : Nat} {a : Act} {w : World} {S : World → Prop} (hm : P.follows .mixedOrders = true) (hf : ops.pop.push ops.back! = ops) (h : lastOK .any ops.pop ops.back! = true) (hin : lastIn .any ops.pop.size ops.back! = true)
    (hp : wpAnyH P .any ops.pop (postLast P ops.back! Q) S ops.pop.size (Array.replicate ops.pop.size false) a w.drew) : (Code.region id ops true).wp P Q a w := by
  have := region_last (id := id) hm h hin hp
  rwa [hf] at this
end
end Go.Proofs.Ytbfkmakfkbdafaa

namespace Go.Proofs.Ytbfkmakfkbdafaa
set_option maxRecDepth 100000
open Go.RowKit

section
variable {P : Program} {Q : Exit → Act → World → Prop}
/-- A call, its result and its world taken up. -/
theorem call_gets {oi : Oper} {a : Act} {w : World} {K : Act → World → Prop} {d : Tmp} {f : FuncId} {xs : Array Operand} {ats : Array TypeId} (hd : oi.dst = some d) (hop : oi.op = Op.call { callee := Callee.value (.func f), args := xs, argTypes := ats })
    (he : ∀ args w, (callFunc f args).run P w = .ok (.enter f args) w) {vs : Array Value} (hxs : xs.map a.eval = vs) {R : Value → World → Prop} (hc : Calls P f vs w fun e w' => ∃ v, e = .returned v ∧ R v w') (hK : ∀ v w', R v w' → K (a.put (some d) v) w') : oi.wp P a w K Q := by
  unfold Oper.wp
  have hr : (execOp a.eval oi).run P w = .ok (.enter f vs) w := by
    have h2 : xs.map a.eval = vs := hxs
    simp [execOp, hop, resolve, invoke, Act.eval, Deferred.ofValue]
    have h3 := he (xs.map a.eval) w
    rw [h2] at h3
    rw [← h2] at h3 ⊢
    exact h3
  rw [hr, Oper.upon_enter]
  exact hc.mono (by rintro e w' ⟨v, rfl, h⟩; rw [hd]; exact hK _ _ h)
/-- A call that gives up. -/
theorem call_up {oi : Oper} {a : Act} {w : World} {K : Act → World → Prop} {f : FuncId} {xs : Array Operand} {ats : Array TypeId} (hop : oi.op = Op.call { callee := Callee.value (.func f), args := xs, argTypes := ats })
    (he : ∀ args w, (callFunc f args).run P w = .ok (.enter f args) w) {vs : Array Value} (hxs : xs.map a.eval = vs) {R : World → Prop} {c : List PanicEntry} (hc : Calls P f vs w fun e w' => e = .panicked c ∧ R w') (hQ : ∀ w', R w' → Q (.panic c) a w') : oi.wp P a w K Q := by
  unfold Oper.wp
  have hr : (execOp a.eval oi).run P w = .ok (.enter f vs) w := by
    have h2 : xs.map a.eval = vs := hxs
    simp [execOp, hop, resolve, invoke, Act.eval, Deferred.ofValue]
    have h3 := he (xs.map a.eval) w
    rw [h2] at h3
    rw [← h2] at h3 ⊢
    exact h3
  rw [hr, Oper.upon_enter]
  exact hc.mono (by rintro e w' ⟨rfl, h⟩; exact hQ _ h)
/-- A store whose run is known. -/
theorem op_skip {oi : Oper} {a : Act} {w w' : World} {K : Act → World → Prop} (hd : oi.dst = none) (hrun : (execOp a.eval oi).run P w = .ok .skip w') (hK : K a w') : oi.wp P a w K Q := by
  unfold Oper.wp
  rw [hrun, Oper.upon_skip, hd]
  exact hK
/-- Just two operations may come up. -/
theorem twoH {ops : Array Oper} {md : Region.Mode} {S : World → Prop} {i j : Nat} {oi oj : Oper} {fuel : Nat} {listed : Array Bool} {a : Act} {w : World} (hi : ops[i]? = some oi) (hj : ops[j]? = some oj) (hr : Region.ready md ops listed = [i, j]) (gi : oi.guard = none) (gj : oj.guard = none)
    (h1 : oi.wp P a w (fun a' w' => S w' ∧ wpAnyH P md ops Q S fuel (listed.setIfInBounds i true) a' w') Q) (h2 : oj.wp P a w (fun a' w' => S w' ∧ wpAnyH P md ops Q S fuel (listed.setIfInBounds j true) a' w') Q) : wpAnyH P md ops Q S (fuel + 1) listed a w := by
  refine wpAnyH_all hr (by simp) fun k hk => ?_
  rcases (by simpa using hk : k = i ∨ k = j) with rfl | rfl
  · unfold wpOp
    simp only [hi]
    rw [if_pos (by simp [Region.wanted, gi])]
    exact .inl h1
  · unfold wpOp
    simp only [hj]
    rw [if_pos (by simp [Region.wanted, gj])]
    exact .inl h2
end
end Go.Proofs.Ytbfkmakfkbdafaa

namespace Go.Proofs.Ytbfkmakfkbdafaa
set_option maxRecDepth 100000
open Go.ChangeShapes Go.WideShapes Go.ChangeAt Go.RowKit

/-- The payload in its box. -/
structure PyI (q : Nat) (L : List Int) (pv : Value) (w : World) : Prop where
  x : BX 27 w q #[pv]
  o : w.ownsRow q 5 1 pv L.length (L.map (Value.int .u8))
theorem PyI.shape {q : Nat} {L : List Int} {pv : Value} {w : World} (h : PyI q L pv w) : ∃ a n c, pv = .slice a n c := by
  rcases h.o.2 with ⟨hv, h0⟩ | ⟨g, cap, cur, hv, _⟩
  · exact ⟨none, 0, 0, hv⟩
  · exact ⟨_, _, _, hv⟩
theorem PyI.below {q : Nat} {L : List Int} {pv : Value} {w w' : World} (h : PyI q L pv w) (hb : Below w.heap.size w w') : PyI q L pv w' := ⟨h.x.below hb h.x.lt, own_below h.o hb (Nat.le_refl _)⟩
theorem putLen_le (n : Int) : (put n).length ≤ 10 := by have := put_len n; omega

set_option maxHeartbeats 2000000 in
set_option maxRecDepth 100000 in
theorem sPut_any (q : Nat) (pv : Value) (L : List Int) (av : Value) (ns : List Int) (w : World) (h : PyI q L pv w) (ha : w.ownsRow q 3 1 av ns.length (ns.flatMap encI)) (hn : ∀ n ∈ ns, 0 ≤ n ∧ n ≤ 9223372036854775807) (hl : L.length + 10 * ns.length ≤ 1000000) :
    Calls Try.prog 20 #[av, .pointer (some ⟨q, 0, none⟩)] w fun e w' => e = .returned (.tuple #[]) ∧ (∃ pv', PyI q (L ++ bytN ns) pv' w') ∧ Below q w w' := by
  have H0 : Hid (PyI q L pv w) := h
  have HA : Hid (w.ownsRow q 3 1 av ns.length (ns.flatMap encI)) := ha
  have HN : Hid (∀ n ∈ ns, 0 ≤ n ∧ n ≤ 9223372036854775807) := hn
  have HZ : Hid (L ++ bytN (ns.take 0) = L) := by show _ = _; simp [bytN]
  obtain ⟨aa, ac, rfl⟩ := (RowK.own encI_len ha : InR w av ns).shape
  have hq := h.x.lt
  clear h ha hn
  go_enter Try.func20, Try.ntmps20
  go_wp2_with fail
  go_loopw [7] (fun i wr => ∃ (k : Nat) (pv : Value), k ≤ ns.length ∧ i = .int .i64 k ∧ PyI q (L ++ bytN (ns.take k)) pv wr ∧ wr.ownsRow q 3 1 (.slice aa ns.length ac) ns.length (ns.flatMap encI) ∧ Below q w wr) (fun i _ => ns.length - (intOf i).toNat)
  case atStart => exact ⟨0, pv, by omega, rfl, by rw [HZ.out]; exact H0.out, HA.out, Below.refl _ _⟩
  case round =>
    clear H0 HA HZ
    obtain ⟨k, pv, hk, rfl, hpy, hoa, hbel⟩ := hrel
    have PY : Hid (PyI q (L ++ bytN (ns.take k)) pv wr) := hpy
    have OA : Hid (wr.ownsRow q 3 1 (.slice aa ns.length ac) ns.length (ns.flatMap encI)) := hoa
    have AB : Hid (Below q w wr) := hbel
    obtain ⟨pa, pn, pc, rfl⟩ := hpy.shape
    have hsr := hbel.size
    have hqr := hpy.x.lt
    clear hpy hoa hbel
    by_cases hlt : k < ns.length
    · obtain ⟨b, off, cap', e1, _, _, lt, hv⟩ := InR.at (RowK.own encI_len OA.out : InR wr (.slice aa ns.length ac) ns) (by omega)
      injection e1 with e1 _ e3
      subst e1 e3
      obtain ⟨x, hx⟩ := getX hlt
      have c1 := hv k x hx
      obtain ⟨hx0, hx1⟩ := HN.out x (List.mem_of_getElem? hx)
      have HT : Hid (L ++ bytN (ns.take (k + 1)) = (L ++ bytN (ns.take k)) ++ put x) := by show _ = _; rw [take_snoc hx, bytN_app, bytN_one, List.append_assoc]
      have hll : (L ++ bytN (ns.take k)).length ≤ 1000000 := by
        have h1 := bytN_len (ns.take k)
        have h2 : (ns.take k).length ≤ ns.length := by rw [List.length_take]; omega
        rw [List.length_append]
        omega
      have hpl := putLen_le x
      have p0 : (0 : Int) ≤ (k : Int) := by omega
      have p1 : (k : Int) < (ns.length : Int) := by omega
      have wx : IntKind.u64.wrap x = x := by rw [IntKind.wrap_u64]; omega
      have CP : Hid (∀ X, Calls Try.prog 21 #[.int .u64 x] X fun e w' => ∃ v, e = .returned v ∧ (w'.ownsRow X.heap.size 5 1 v (put x).length ((put x).map (Value.int .u8)) ∧ Below X.heap.size X w')) := fun X => put_any x X hx0 (by omega)
      have ep : ∀ args w, (callFunc 21 args).run Try.prog w = .ok (.enter 21 args) w := enters_of Try.func21 (by kernel_rfl) rfl
      have HS : Hid (∀ V, Below wr.heap.size wr V → (V.cell? ⟨q, 0, none⟩ = some (.slice pa pn pc))) := fun V hV => ((PY.out.below hV).x).cell 0
      generalize L ++ bytN (ns.take k) = M at *
      clear hv hx
      go_upto_region 3 with fail
      clear c1
      have bd : Below wr.heap.size wr wr.drew := (Below.refl _ _).drew
      have HS0 : Hid (wr.drew.cell? ⟨q, 0, none⟩ = some (.slice pa pn pc)) := HS.out _ bd
      refine region_lastF (S := fun V => (V.cell? ⟨q, 0, none⟩ = some (.slice pa pn pc))) (by kernel_rfl) rfl (by kernel_rfl) (by kernel_rfl) ?_
      simp only [List.pop_toArray, List.dropLast_cons_cons, List.dropLast_singleton, List.size_toArray, List.length_cons, List.length_nil, Nat.reduceAdd]
      refine takeH (i := 0) (v := .slice pa pn pc) (d := 11) rfl rfl (by kernel_rfl) (by kernel_rfl) (by kernel_rfl) (fun _ _ _ h => h) (by rfl) (fun V hV => by have v1 := hV; go_simp) HS0.out ?_
      simp only [Act.put, List.setIfInBounds_toArray, List.set_cons_zero, List.set_cons_succ]
      refine takeH (i := 1) (v := .int .i64 x) (d := 12) rfl rfl (by kernel_rfl) (by kernel_rfl) (by kernel_rfl) (fun _ _ _ h => h) (by rfl) (fun V hV => by have v1 := hV; go_simp) HS0.out ?_
      simp only [Act.put, List.setIfInBounds_toArray, List.set_cons_zero, List.set_cons_succ]
      refine takeH (i := 2) (v := .int .u64 x) (d := 13) rfl rfl (by kernel_rfl) (by kernel_rfl) (by kernel_rfl) (fun _ _ _ h => h) (by rfl) (fun V hV => by have v1 := hV; go_simp) HS0.out ?_
      simp only [Act.put, List.setIfInBounds_toArray, List.set_cons_zero, List.set_cons_succ]
      refine oneH (i := 3) rfl (by kernel_rfl) rfl (call_gets (d := 14) (f := 21) (xs := #[.tmp 13]) (ats := #[49]) rfl rfl ep (vs := #[.int .u64 x]) (by simp [Act.eval]) (CP.out _) ?_)
      rintro vr w3 ⟨ho3, hb3⟩
      have b3 : Below wr.heap.size wr w3 := bd.trans hb3
      have HS3 : Hid (w3.cell? ⟨q, 0, none⟩ = some (.slice pa pn pc)) := HS.out _ b3
      refine ⟨HS3.out, ?_⟩
      simp only [Act.put, List.setIfInBounds_toArray, List.set_cons_zero, List.set_cons_succ]
      have py3 := PY.out.below b3
      obtain ⟨v4, w4, hrun4, hown4, hg4⟩ := run_append_byt (w := w3) 27 q (.slice pa pn pc) M py3.o vr (put x) (reads_own ho3) (by omega) (by have := b3.size; omega)
      have x4 := py3.x.grown py3.o (by decide) hg4
      have HS4 : Hid (w4.cell? ⟨q, 0, none⟩ = some (.slice pa pn pc)) := x4.cell 0
      refine oneH (i := 4) rfl (by kernel_rfl) rfl (call_append (d := 15) (s := .tmp 11) (x := .tmp 14) (t := 27) rfl rfl rfl rfl hrun4 ⟨HS4.out, ?_⟩)
      simp only [Act.put, List.setIfInBounds_toArray, List.set_cons_zero, List.set_cons_succ]
      obtain ⟨ya, yn, yc, rfl⟩ : ∃ a n c, v4 = .slice a n c := by
        rcases hown4.2 with ⟨hv, h0⟩ | ⟨g, cap, cur, hv, _⟩
        · exact ⟨none, 0, 0, hv⟩
        · exact ⟨_, _, _, hv⟩
      have kp : Kept (fun k => k = q) w4 (w4.setCell ⟨q, 0, none⟩ (.slice ya yn yc)) := Kept.box _ _ _ _
      have oa4 : w4.ownsRow q 3 1 (.slice (some ⟨b, off, none⟩) ns.length ac) ns.length (ns.flatMap encI) := (own_below OA.out b3 (Nat.le_refl _)).kept hg4 (own_apart (own_below OA.out b3 (Nat.le_refl _)) py3.o (by decide))
      have b4 : Below q w w4 := AB.out.trans ((b3.mono (by omega)).grown hg4 (by have := b3.size; omega) (fun g hg => (own_ge py3.o hg).1))
      have NW : Hid (PyI q (M ++ put x) (.slice ya yn yc) (w4.setCell ⟨q, 0, none⟩ (.slice ya yn yc)) ∧ (w4.setCell ⟨q, 0, none⟩ (.slice ya yn yc)).ownsRow q 3 1 (.slice (some ⟨b, off, none⟩) ns.length ac) ns.length (ns.flatMap encI) ∧ Below q w (w4.setCell ⟨q, 0, none⟩ (.slice ya yn yc))) := ⟨⟨x4.set 0 _, own_off hown4 x4 (by decide) kp⟩, own_off oa4 x4 (by decide) kp, b4.trans (kp.below (by have := b4.size; omega) (fun g hg => by omega))⟩
      have f4 := x4.frozen 0
      have c4 := x4.cell 0
      refine wpAnyH_done (by kernel_rfl) ?_ _
      show Oper.wp _ _ _ _ _ _
      refine op_skip (w' := w4.setCell ⟨q, 0, none⟩ (.slice ya yn yc)) rfl (by go_simp) ?_
      clear HS0 HS3 HS4 HS f4 c4 b4 oa4 kp x4 hrun4 hown4 hg4 py3 ho3 hb3 b3 bd PY OA AB
      generalize w4.setCell ⟨q, 0, none⟩ (.slice ya yn yc) = w5 at *
      go_wp2_with fail
      go_roundw
      case rel => exact ⟨k + 1, _, by omega, by go_num, by rw [HT.out]; exact NW.out.1, NW.out.2.1, NW.out.2.2⟩
      case measure => simp [intOf]; omega
    · have ek : ns.take k = ns := List.take_of_length_le (by omega)
      rw [ek] at PY
      have HP : Hid ((∃ pv', PyI q (L ++ bytN ns) pv' wr) ∧ Below q w wr) := ⟨⟨_, PY.out⟩, AB.out⟩
      clear PY AB OA ek
      go_wp2_with fail
      go_end0
      exact ⟨rfl, HP.out⟩
end Go.Proofs.Ytbfkmakfkbdafaa

namespace Go.Proofs.Ytbfkmakfkbdafaa
set_option maxRecDepth 100000
open Go.ChangeShapes Go.WideShapes Go.ChangeAt Go.RowKit

theorem own_lit1 (w : World) (base : Nat) (hb : base ≤ w.heap.size) (x : Int) : (w.alloc (.cells #[.int .i64 x] 3)).ownsRow base 3 1 (.slice (some ⟨w.heap.size, 0, none⟩) 1 1) ([x] : List Int).length (([x] : List Int).flatMap encI) :=
  ⟨by simp [encI], .inr ⟨w.heap.size, 1, #[.int .i64 x], rfl, hb, heap_alloc_new w _, by simp, by simp [maxLen], by simp, by simp [encI]⟩⟩
theorem own_lit2 (w : World) (base : Nat) (hb : base ≤ w.heap.size) (x y : Int) : (w.alloc (.cells #[.int .i64 x, .int .i64 y] 3)).ownsRow base 3 1 (.slice (some ⟨w.heap.size, 0, none⟩) 2 2) ([x, y] : List Int).length (([x, y] : List Int).flatMap encI) :=
  ⟨by simp [encI], .inr ⟨w.heap.size, 2, #[.int .i64 x, .int .i64 y], rfl, hb, heap_alloc_new w _, by simp, by simp [maxLen], by simp, by simp [encI]⟩⟩
theorem own_lit4 (w : World) (base : Nat) (hb : base ≤ w.heap.size) (x y z u : Int) : (w.alloc (.cells #[.int .i64 x, .int .i64 y, .int .i64 z, .int .i64 u] 3)).ownsRow base 3 1 (.slice (some ⟨w.heap.size, 0, none⟩) 4 4) ([x, y, z, u] : List Int).length (([x, y, z, u] : List Int).flatMap encI) :=
  ⟨by simp [encI], .inr ⟨w.heap.size, 4, #[.int .i64 x, .int .i64 y, .int .i64 z, .int .i64 u], rfl, hb, heap_alloc_new w _, by simp, by simp [maxLen], by simp, by simp [encI]⟩⟩
theorem own_lenB {w : World} {base : Nat} {a : Option Addr} {n c : Nat} {l : List Int} (h : w.ownsRow base 5 1 (.slice a n c) l.length (l.map (Value.int .u8))) : n = l.length := by
  rcases h.2 with ⟨hv, h0⟩ | ⟨g, cap, cur, hv, _⟩
  · injection hv with _ h1 _; omega
  · injection hv with _ h1 _
/-- What Encode answers. -/
def BytP2 (w : World) (r : List Int × Int) (e : Ending) (w' : World) : Prop := ∃ v', e = .returned (.tuple #[v', .int .i64 r.2]) ∧ w'.ownsRow w.heap.size 5 1 v' r.1.length (r.1.map (Value.int .u8)) ∧ Below w.heap.size w w'
theorem BytP2.no {w w' : World} {f : Int} (hb : Below w.heap.size w w') : BytP2 w ([], f) (.returned (.tuple #[.slice none 0 0, .int .i64 f])) w' := ⟨_, rfl, World.ownsRow_nil _ _ _ _, hb⟩

set_option maxHeartbeats 8000000 in
set_option maxRecDepth 100000 in
theorem sEnc_any (s : SvS) (vv vm : Value) (w : World) (hv : MlR w vv s.vals) (hm : MlR w vm s.mail) (hB : ∀ x ∈ s.mail, mlB x) :
    Calls Try.prog 7 #[.agg #[.int .i64 s.step, .int .i64 s.phase, .bool s.fresh, vv, vm]] w (BytP2 w (encS s)) := by
  have HV : Hid (MlR w vv s.vals) := hv
  have HM : Hid (MlR w vm s.mail) := hm
  have CM : Hid (∀ X, MlR X vv s.vals → MlR X vm s.mail → Calls Try.prog 19 #[.agg #[.int .i64 s.step, .int .i64 s.phase, .bool s.fresh, vv, vm]] X fun e w' => e = .returned (.bool (svMay s)) ∧ Below X.heap.size X w') := fun X h1 h2 => sMayBe_any s vv vm X h1 h2 hB
  obtain ⟨va, vc, rfl, hvc, hvm, _, _⟩ := hv
  obtain ⟨ma, mc, rfl, hmc, hmm, _, _⟩ := hm
  unfold maxLen at hvm hmm
  have EN : Hid (svMay s = false → encS s = ([], 9)) := encS_no
  have EB : Hid (svMay s = true → ¬ (bytN (numsS s)).length ≤ 20000 → encS s = ([], 1)) := encS_big
  have EY : Hid (svMay s = true → (bytN (numsS s)).length ≤ 20000 → encS s = (wrap (bytN (numsS s)), 0)) := encS_yes
  have NI : Hid (svMay s = true → ∀ n ∈ numsS s, 0 ≤ n ∧ n ≤ 4398046511105) := numsS_in
  have NB : Hid (svMay s = true → (0 ≤ s.step ∧ s.step ≤ 100000) ∧ (s.phase = 0 ∨ s.phase = 1) ∧ s.vals.length ≤ 200 ∧ s.mail.length ≤ 5000 ∧ (∀ x ∈ s.vals, -1 ≤ x.1 ∧ x.1 ≤ 4398046511104 ∧ -1 ≤ x.2 ∧ x.2 < 200) ∧ (∀ x ∈ s.mail, 0 ≤ x.1 ∧ x.1 < 200 ∧ 0 ≤ x.2 ∧ x.2 ≤ 4398046511104)) := fun h => by
    obtain ⟨⟨h1, h2, h3⟩, h4, h5, h6, _, h7⟩ := svMay_iff.1 h
    exact ⟨⟨h1, h2⟩, h3, h4, h6, fun x hx => valS_iff.1 (valA_iff.1 h5 x hx), fun x hx => mayM_iff.1 (mayA_iff.1 h7 x hx)⟩
  have NE : Hid (bytN (numsS s) = (((bytN [s.step, s.phase, if s.fresh then 1 else 0, (s.vals.length : Int)]) ++ bytN (pairN 1 s.vals)) ++ bytN [(s.mail.length : Int)]) ++ bytN (pairN 0 s.mail)) := by
    show _ = _
    unfold numsS
    rw [bytN_app, bytN_app, bytN_app, List.append_assoc, List.append_assoc]
  have NL : Hid ((bytN (numsS s)).length ≤ 10 * (5 + 2 * s.vals.length + 2 * s.mail.length)) := by
    have := bytN_len (numsS s)
    rw [numsS_len] at this
    exact this
  have BY : Hid (svMay s = true → ∀ x ∈ bytN (numsS s), 0 ≤ x ∧ x ≤ 255) := fun h => bytN_bytes (fun n hn => ⟨(numsS_in h n hn).1, by have := (numsS_in h n hn).2; omega⟩)
  generalize encS s = R at *
  generalize svMay s = r at *
  generalize hNN : bytN (numsS s) = NN at *
  generalize numsS s = nums at *
  clear hNN
  obtain ⟨st, ph, fr, vs, ms⟩ := s
  simp only at HV HM CM hvc hvm hmc hmm NB NE NL ⊢
  clear hB
  have X0 : BX 25 (w.alloc (.cells #[.int .i64 st, .int .i64 ph, .bool fr, .slice va vs.length vc, .slice ma ms.length mc] 25)) w.heap.size #[.int .i64 st, .int .i64 ph, .bool fr, .slice va vs.length vc, .slice ma ms.length mc] := BX.new _ _ _
  have B0 : Below w.heap.size w (w.alloc (.cells #[.int .i64 st, .int .i64 ph, .bool fr, .slice va vs.length vc, .slice ma ms.length mc] 25)) := below_alloc _ _
  go_enter Try.func7, Try.ntmps7
  go_upto_region 1 with fail
  generalize w.alloc (.cells #[.int .i64 st, .int .i64 ph, .bool fr, .slice va vs.length vc, .slice ma ms.length mc] 25) = W0 at *
  have HK0 : Hid (∀ X, Below W0.heap.size W0 X → BX 25 X w.heap.size #[.int .i64 st, .int .i64 ph, .bool fr, .slice va vs.length vc, .slice ma ms.length mc] ∧ Below w.heap.size w X ∧ MlR X (.slice va vs.length vc) vs ∧ MlR X (.slice ma ms.length mc) ms) := fun X hX => ⟨X0.below hX X0.lt, B0.trans (hX.mono B0.size), HV.out.below (B0.trans (hX.mono B0.size)) (Nat.le_refl _), HM.out.below (B0.trans (hX.mono B0.size)) (Nat.le_refl _)⟩
  have A0 : Hid (Below W0.heap.size W0 W0) := Below.refl _ _
  obtain ⟨c0, c1, c2, c3, c4⟩ := X0.all5
  clear X0 B0 HV HM
  go_wp2_with fail
  refine (CM.out _ (HK0.out _ A0.out).2.2.1 (HK0.out _ A0.out).2.2.2).mono ?_
  rintro e W1 ⟨rfl, hb1⟩
  have A1 : Hid (Below W0.heap.size W0 W1) := hb1
  obtain ⟨Q1, bw1, _, _⟩ := HK0.out _ hb1
  have BW1 : Hid (Below w.heap.size w W1) := bw1
  clear c0 c1 c2 c3 c4 hb1 bw1 CM
  obtain ⟨c0, c1, c2, c3, c4⟩ := Q1.all5
  clear Q1
  cases r
  · have e := EN.out rfl
    subst e
    have HP : Hid (BytP2 w ([], 9) (.returned (.tuple #[.slice none 0 0, .int .i64 9])) W1) := BytP2.no BW1.out
    clear EN EB EY NI NB NE NL BY
    generalize BytP2 w ([], 9) = P at *
    go_wp2_with fail
    exact HP.out
  · obtain ⟨⟨hs0, hs1⟩, hph, hvl, hml, hvb, hmb⟩ := NB.out rfl
    have HVB : Hid (∀ x ∈ vs, -1 ≤ x.1 ∧ x.1 ≤ 4398046511104 ∧ -1 ≤ x.2 ∧ x.2 < 200) := hvb
    have HMB : Hid (∀ x ∈ ms, 0 ≤ x.1 ∧ x.1 < 200 ∧ 0 ≤ x.2 ∧ x.2 ≤ 4398046511104) := hmb
    have EB2 : Hid (¬ NN.length ≤ 20000 → R = ([], 1)) := EB.out rfl
    have EY2 : Hid (NN.length ≤ 20000 → R = (wrap NN, 0)) := EY.out rfl
    have hnl := NL.out
    have HNB : Hid (∀ x ∈ NN, 0 ≤ x ∧ x ≤ 255) := BY.out rfl
    have hphb : 0 ≤ ph ∧ ph ≤ 1 := by omega
    clear hph hvb hmb EN EB EY NI NB NL BY
    have W2 : Hid (PyI W1.heap.size [] (.slice none 0 0) (W1.alloc (.cells #[.slice none 0 0] 27)) ∧ Below W1.heap.size W1 (W1.alloc (.cells #[.slice none 0 0] 27))) := ⟨⟨BX.new _ _ _, World.ownsRow_nil _ _ _ _⟩, below_alloc _ _⟩
    go_upto_region 4 with fail
    generalize W1.alloc (.cells #[.slice none 0 0] 27) = W3 at *
    have HK : Hid (∀ X, Below W1.heap.size W1 X → BX 25 X w.heap.size #[.int .i64 st, .int .i64 ph, .bool fr, .slice va vs.length vc, .slice ma ms.length mc] ∧ Below w.heap.size w X ∧ MlR X (.slice va vs.length vc) vs ∧ MlR X (.slice ma ms.length mc) ms) := fun X hX => HK0.out X (A1.out.trans (hX.mono A1.out.size))
    have hqw := BW1.out.size
    clear HK0 A0 A1 BW1
    generalize hqe : W1.heap.size = q at *
    obtain ⟨py3, b3⟩ := W2.out
    have PY3 : Hid (PyI q [] (.slice none 0 0) W3) := py3
    have A3 : Hid (Below q W1 W3) := b3
    have HS1 : Hid (W1.heap.size = q) := hqe
    obtain ⟨Q3, _, _, _⟩ := HK.out _ b3
    clear c0 c1 c2 c3 c4 py3 b3 W2 hqe
    obtain ⟨c0, c1, c2, c3, c4⟩ := Q3.all5
    clear Q3
    go_upto_if 16 with fail
    obtain ⟨fz, hfz⟩ : ∃ z : Int, (if fr then (1 : Int) else 0) = z := ⟨_, rfl⟩
    have HFZ : Hid ((if fr then (1 : Int) else 0) = fz) := hfz
    have hfb : 0 ≤ fz ∧ fz ≤ 1 := by rw [← hfz]; cases fr <;> decide
    rw [hfz] at NE
    clear hfz
    go_cut [6] from 16 to 16 (fun t wx => t = .int .i64 fz ∧ W3 = wx)
    case first =>
      cases fr
      · have e : Hid (Value.int .i64 0 = .int .i64 fz) := by show _ = _; rw [← HFZ.out]; rfl
        clear HFZ
        go_wp2_with fail
        go_meet
        case rel => exact ⟨e.out, rfl⟩
      · have e : Hid (Value.int .i64 1 = .int .i64 fz) := by show _ = _; rw [← HFZ.out]; rfl
        clear HFZ
        go_wp2_with fail
        go_meet
        case rel => exact ⟨e.out, rfl⟩
    case rest =>
    obtain ⟨rfl, rfl⟩ := hcut
    clear HFZ
    have W4 : Hid (PyI q [] (.slice none 0 0) (W3.alloc (.cells #[.int .i64 st, .int .i64 ph, .int .i64 fz, .int .i64 (vs.length : Int)] 3)) ∧ (W3.alloc (.cells #[.int .i64 st, .int .i64 ph, .int .i64 fz, .int .i64 (vs.length : Int)] 3)).ownsRow q 3 1 (.slice (some ⟨W3.heap.size, 0, none⟩) 4 4) ([st, ph, fz, (vs.length : Int)] : List Int).length (([st, ph, fz, (vs.length : Int)] : List Int).flatMap encI) ∧ Below q W1 (W3.alloc (.cells #[.int .i64 st, .int .i64 ph, .int .i64 fz, .int .i64 (vs.length : Int)] 3))) := ⟨PY3.out.below (below_alloc _ _), own_lit4 W3 q (Nat.le_of_lt PY3.out.x.lt) _ _ _ _, A3.out.alloc (Nat.le_of_lt PY3.out.x.lt) _⟩
    go_wp2_with fail
    generalize W3.alloc (.cells #[.int .i64 st, .int .i64 ph, .int .i64 fz, .int .i64 (vs.length : Int)] 3) = W5 at *
    refine (sPut_any q _ [] _ [st, ph, fz, (vs.length : Int)] W5 W4.out.1 W4.out.2.1 (fun n hn => by simp only [List.mem_cons, List.not_mem_nil, or_false] at hn; omega) (by simp)).mono ?_
    rintro e W6 ⟨rfl, ⟨pv6, hpy6⟩, hb6⟩
    have PY6 : Hid (PyI q (bytN [st, ph, fz, (vs.length : Int)]) pv6 W6) := hpy6
    have A6 : Hid (Below q W1 W6) := W4.out.2.2.trans hb6
    have HL0 : Hid ((bytN [st, ph, fz, (vs.length : Int)]).length ≤ 40) := bytN_len _
    clear hpy6 hb6 W4 PY3 A3 c0 c1 c2 c3 c4
    obtain ⟨Q6, _, _, _⟩ := HK.out _ A6.out
    obtain ⟨c0, c1, c2, c3, c4⟩ := Q6.all5
    clear Q6
    generalize bytN [st, ph, fz, (vs.length : Int)] = N0 at *
    go_wp2_with fail
    have HZ0 : Hid (N0 ++ bytN (pairN 1 (vs.take 0)) = N0) := by show _ = _; simp [pairN, bytN]
    have HLV : Hid (∀ k, k ≤ vs.length → (N0 ++ bytN (pairN 1 (vs.take k))).length ≤ 40 + 20 * vs.length) := fun k hk => by
      have h1 := bytN_len (pairN 1 (vs.take k))
      have h2 := HL0.out
      rw [pairN_len, List.length_take] at h1
      rw [List.length_append]
      omega
    go_loopw [31] (fun i wr => ∃ (k : Nat) (pv : Value), k ≤ vs.length ∧ i = .int .i64 k ∧ PyI q (N0 ++ bytN (pairN 1 (vs.take k))) pv wr ∧ Below q W1 wr) (fun i _ => vs.length - (intOf i).toNat)
    case atStart => exact ⟨0, pv6, by omega, rfl, by rw [HZ0.out]; exact PY6.out, A6.out⟩
    case round =>
      clear PY6 A6 HZ0 c0 c1 c2 c3 c4
      obtain ⟨k, pv, hk, rfl, hpy, hbel⟩ := hrel
      have PY : Hid (PyI q (N0 ++ bytN (pairN 1 (vs.take k))) pv wr) := hpy
      have AB : Hid (Below q W1 wr) := hbel
      have hqr := hpy.x.lt
      have hll := HLV.out k hk
      obtain ⟨Q7, _, MV, _⟩ := HK.out _ hbel
      clear hpy hbel
      by_cases hlt : k < vs.length
      · obtain ⟨bv, ov, cv', e5, _, _, ltv, hvv⟩ := MlR.at MV (by omega)
        injection e5 with e5 _ e6
        subst e5 e6
        obtain ⟨x, hx⟩ := getX hlt
        obtain ⟨y0, y1⟩ := hvv k x hx
        obtain ⟨g1, g2, g3, g4⟩ := HVB.out x (List.mem_of_getElem? hx)
        have HT : Hid (N0 ++ bytN (pairN 1 (vs.take (k + 1))) = (N0 ++ bytN (pairN 1 (vs.take k))) ++ bytN [x.1 + 1, x.2 + 1]) := by show _ = _; rw [take_snoc hx, pairN_app, pairN_one, bytN_app, List.append_assoc]
        have p0 : (0 : Int) ≤ (k : Int) := by omega
        have p1 : (k : Int) < (vs.length : Int) := by omega
        have w1 : IntKind.i64.wrap (x.1 + 1) = x.1 + 1 := wrap_id64 (by omega) (by omega)
        have w2 : IntKind.i64.wrap (x.2 + 1) = x.2 + 1 := wrap_id64 (by omega) (by omega)
        obtain ⟨x1, x2⟩ := x
        simp only at y0 y1 g1 g2 g3 g4 HT w1 w2
        generalize N0 ++ bytN (pairN 1 (vs.take k)) = M at *
        have xb : BX 52 (wr.alloc (.cells #[.int .i64 x1, .int .i64 x2] 52)) wr.heap.size #[.int .i64 x1, .int .i64 x2] := BX.new _ _ _
        have W8 : Hid (PyI q M pv (wr.alloc (.cells #[.int .i64 x1, .int .i64 x2] 52)) ∧ Below q W1 (wr.alloc (.cells #[.int .i64 x1, .int .i64 x2] 52))) := ⟨PY.out.below (below_alloc _ _), AB.out.alloc (Nat.le_of_lt hqr) _⟩
        clear hvv hx Q7 MV PY AB
        go_upto_region 12 with fail
        obtain ⟨m0, m1, _⟩ := xb.all2
        generalize wr.alloc (.cells #[.int .i64 x1, .int .i64 x2] 52) = W9 at *
        generalize wr.heap.size = bx at *
        obtain ⟨py9, b9⟩ := W8.out
        have W10 : Hid (PyI q M pv (W9.alloc (.cells #[.int .i64 (x1 + 1), .int .i64 (x2 + 1)] 3)) ∧ (W9.alloc (.cells #[.int .i64 (x1 + 1), .int .i64 (x2 + 1)] 3)).ownsRow q 3 1 (.slice (some ⟨W9.heap.size, 0, none⟩) 2 2) ([x1 + 1, x2 + 1] : List Int).length (([x1 + 1, x2 + 1] : List Int).flatMap encI) ∧ Below q W1 (W9.alloc (.cells #[.int .i64 (x1 + 1), .int .i64 (x2 + 1)] 3))) := ⟨py9.below (below_alloc _ _), own_lit2 W9 q (Nat.le_of_lt py9.x.lt) _ _, b9.alloc (Nat.le_of_lt py9.x.lt) _⟩
        clear xb y0 y1 py9 b9 W8
        go_wp2_with fail
        generalize W9.alloc (.cells #[.int .i64 (x1 + 1), .int .i64 (x2 + 1)] 3) = W11 at *
        refine (sPut_any q _ M _ [x1 + 1, x2 + 1] W11 W10.out.1 W10.out.2.1 (fun n hn => by simp only [List.mem_cons, List.not_mem_nil, or_false] at hn; omega) (by simp only [List.length_cons, List.length_nil]; omega)).mono ?_
        rintro e W12 ⟨rfl, ⟨pv12, hpy12⟩, hb12⟩
        have PYN : Hid (PyI q (M ++ bytN [x1 + 1, x2 + 1]) pv12 W12) := hpy12
        have AN : Hid (Below q W1 W12) := W10.out.2.2.trans hb12
        clear hpy12 hb12 W10 m0 m1
        go_wp2_with fail
        go_roundw
        case rel => exact ⟨k + 1, pv12, by omega, by go_num, by rw [HT.out]; exact PYN.out, AN.out⟩
        case measure => simp [intOf]; omega
      · have ek : vs.take k = vs := List.take_of_length_le (by omega)
        rw [ek] at PY hll
        obtain ⟨V7, rfl⟩ : ∃ V, V = wr := ⟨wr, rfl⟩
        obtain ⟨c0, c1, c2, c3, c4⟩ := Q7.all5
        generalize N0 ++ bytN (pairN 1 vs) = N1 at *
        have W13 : Hid (PyI q N1 pv (V7.alloc (.cells #[.int .i64 (ms.length : Int)] 3)) ∧ (V7.alloc (.cells #[.int .i64 (ms.length : Int)] 3)).ownsRow q 3 1 (.slice (some ⟨V7.heap.size, 0, none⟩) 1 1) ([(ms.length : Int)] : List Int).length (([(ms.length : Int)] : List Int).flatMap encI) ∧ Below q W1 (V7.alloc (.cells #[.int .i64 (ms.length : Int)] 3))) := ⟨PY.out.below (below_alloc _ _), own_lit1 V7 q (Nat.le_of_lt hqr) _, AB.out.alloc (Nat.le_of_lt hqr) _⟩
        clear ek Q7 MV PY AB HLV HVB
        go_wp2_with fail
        generalize V7.alloc (.cells #[.int .i64 (ms.length : Int)] 3) = W14 at *
        refine (sPut_any q _ N1 _ [(ms.length : Int)] W14 W13.out.1 W13.out.2.1 (fun n hn => by simp only [List.mem_cons, List.not_mem_nil, or_false] at hn; omega) (by simp only [List.length_cons, List.length_nil]; omega)).mono ?_
        rintro e W15 ⟨rfl, ⟨pv15, hpy15⟩, hb15⟩
        have PY15 : Hid (PyI q (N1 ++ bytN [(ms.length : Int)]) pv15 W15) := hpy15
        have A15 : Hid (Below q W1 W15) := W13.out.2.2.trans hb15
        have HL1 : Hid ((N1 ++ bytN [(ms.length : Int)]).length ≤ 50 + 20 * vs.length) := by
          have h1 := bytN_len [(ms.length : Int)]
          show _ ≤ _
          rw [List.length_append]
          simp only [List.length_cons, List.length_nil] at h1
          omega
        clear hpy15 hb15 W13 c0 c1 c2 c3 c4
        obtain ⟨Q15, _, _, _⟩ := HK.out _ A15.out
        obtain ⟨c0, c1, c2, c3, c4⟩ := Q15.all5
        clear Q15
        generalize N1 ++ bytN [(ms.length : Int)] = N2 at *
        go_wp2_with fail
        have HZ2 : Hid (N2 ++ bytN (pairN 0 (ms.take 0)) = N2) := by show _ = _; simp [pairN, bytN]
        have HLM : Hid (∀ k, k ≤ ms.length → (N2 ++ bytN (pairN 0 (ms.take k))).length ≤ 50 + 20 * vs.length + 20 * ms.length) := fun k hk => by
          have h1 := bytN_len (pairN 0 (ms.take k))
          have h2 := HL1.out
          rw [pairN_len, List.length_take] at h1
          rw [List.length_append]
          omega
        go_loopw [54] (fun i wr => ∃ (k : Nat) (pv : Value), k ≤ ms.length ∧ i = .int .i64 k ∧ PyI q (N2 ++ bytN (pairN 0 (ms.take k))) pv wr ∧ Below q W1 wr) (fun i _ => ms.length - (intOf i).toNat)
        case atStart => exact ⟨0, pv15, by omega, rfl, by rw [HZ2.out]; exact PY15.out, A15.out⟩
        case round =>
          clear PY15 A15 HZ2 c0 c1 c2 c3 c4
          obtain ⟨k, pv, hk, rfl, hpy, hbel⟩ := hrel
          have PY : Hid (PyI q (N2 ++ bytN (pairN 0 (ms.take k))) pv wr) := hpy
          have AB : Hid (Below q W1 wr) := hbel
          have hqr := hpy.x.lt
          have hll2 := HLM.out k hk
          obtain ⟨Q7, BW7, _, MM⟩ := HK.out _ hbel
          have hpv := hpy.shape
          clear hpy hbel
          by_cases hlt : k < ms.length
          · obtain ⟨bv, ov, cv', e5, _, _, ltv, hvv⟩ := MlR.at MM (by omega)
            injection e5 with e5 _ e6
            subst e5 e6
            obtain ⟨x, hx⟩ := getX hlt
            obtain ⟨y0, y1⟩ := hvv k x hx
            obtain ⟨g1, g2, g3, g4⟩ := HMB.out x (List.mem_of_getElem? hx)
            have HT : Hid (N2 ++ bytN (pairN 0 (ms.take (k + 1))) = (N2 ++ bytN (pairN 0 (ms.take k))) ++ bytN [x.1, x.2]) := by show _ = _; rw [take_snoc hx, pairN_app, pairN_one, bytN_app, List.append_assoc, Int.add_zero, Int.add_zero]
            have p0 : (0 : Int) ≤ (k : Int) := by omega
            have p1 : (k : Int) < (ms.length : Int) := by omega
            obtain ⟨x1, x2⟩ := x
            simp only at y0 y1 g1 g2 g3 g4 HT
            generalize N2 ++ bytN (pairN 0 (ms.take k)) = M at *
            have xb : BX 54 (wr.alloc (.cells #[.int .i64 x1, .int .i64 x2] 54)) wr.heap.size #[.int .i64 x1, .int .i64 x2] := BX.new _ _ _
            have W8 : Hid (PyI q M pv (wr.alloc (.cells #[.int .i64 x1, .int .i64 x2] 54)) ∧ Below q W1 (wr.alloc (.cells #[.int .i64 x1, .int .i64 x2] 54))) := ⟨PY.out.below (below_alloc _ _), AB.out.alloc (Nat.le_of_lt hqr) _⟩
            clear hvv hx Q7 MM PY AB BW7 hpv
            go_upto_region 18 with fail
            obtain ⟨m0, m1, _⟩ := xb.all2
            generalize wr.alloc (.cells #[.int .i64 x1, .int .i64 x2] 54) = W9 at *
            generalize wr.heap.size = bx at *
            obtain ⟨py9, b9⟩ := W8.out
            have W10 : Hid (PyI q M pv (W9.alloc (.cells #[.int .i64 x1, .int .i64 x2] 3)) ∧ (W9.alloc (.cells #[.int .i64 x1, .int .i64 x2] 3)).ownsRow q 3 1 (.slice (some ⟨W9.heap.size, 0, none⟩) 2 2) ([x1, x2] : List Int).length (([x1, x2] : List Int).flatMap encI) ∧ Below q W1 (W9.alloc (.cells #[.int .i64 x1, .int .i64 x2] 3))) := ⟨py9.below (below_alloc _ _), own_lit2 W9 q (Nat.le_of_lt py9.x.lt) _ _, b9.alloc (Nat.le_of_lt py9.x.lt) _⟩
            clear xb y0 y1 py9 b9 W8
            go_wp2_with fail
            generalize W9.alloc (.cells #[.int .i64 x1, .int .i64 x2] 3) = W11 at *
            refine (sPut_any q _ M _ [x1, x2] W11 W10.out.1 W10.out.2.1 (fun n hn => by simp only [List.mem_cons, List.not_mem_nil, or_false] at hn; omega) (by simp only [List.length_cons, List.length_nil]; omega)).mono ?_
            rintro e W12 ⟨rfl, ⟨pv12, hpy12⟩, hb12⟩
            have PYN : Hid (PyI q (M ++ bytN [x1, x2]) pv12 W12) := hpy12
            have AN : Hid (Below q W1 W12) := W10.out.2.2.trans hb12
            clear hpy12 hb12 W10 m0 m1
            go_wp2_with fail
            go_roundw
            case rel => exact ⟨k + 1, pv12, by omega, by go_num, by rw [HT.out]; exact PYN.out, AN.out⟩
            case measure => simp [intOf]; omega
          · have ek : ms.take k = ms := List.take_of_length_le (by omega)
            rw [ek] at PY
            rw [← NE.out] at PY
            obtain ⟨pa, pn, pc, rfl⟩ := hpv
            have pq := PY.out.x.cell 0
            have hpn : pn = NN.length := own_lenB PY.out.o
            have HB7 : Hid (Below w.heap.size w wr) := BW7
            have RN : Hid (Reads .u8 wr (.slice pa pn pc) NN) := reads_own PY.out.o
            subst hpn
            clear ek Q7 MM AB NE HLM HMB
            by_cases hsz : NN.length ≤ 20000
            · have HRE : Hid (R = (wrap NN, 0)) := EY2.out hsz
              have CW : Hid (∀ X, X = wr → _) := fun X (_ : X = wr) => wrap_any (.slice pa NN.length pc) NN wr RN.out HNB.out hsz
              clear EB2 EY2
              go_wp2_with fail
              refine (CW.out _ rfl).mono ?_
              rintro e W9 ⟨v9, rfl, ho9, hb9⟩
              have HP : Hid (BytP2 w R (.returned (.tuple #[v9, .int .i64 0])) W9) := by
                show BytP2 _ _ _ _
                rw [HRE.out]
                exact ⟨_, rfl, own_lower ho9 HB7.out.size, HB7.out.trans (hb9.mono HB7.out.size)⟩
              clear ho9 hb9 CW
              generalize BytP2 w R = P at *
              go_wp2_with fail
              exact HP.out
            · have HRE : Hid (R = ([], 1)) := EB2.out hsz
              have CW : Hid (∀ X, X = wr → _) := fun X (_ : X = wr) => wrap_over pa NN.length pc wr (by omega)
              clear EB2 EY2
              go_wp2_with fail
              refine (CW.out _ rfl).mono ?_
              rintro e W9 ⟨rfl, rfl⟩
              have HP : Hid (BytP2 w R (.returned (.tuple #[.slice none 0 0, .int .i64 1])) W9) := by
                show BytP2 _ _ _ _
                rw [HRE.out]
                exact BytP2.no HB7.out
              clear CW
              generalize BytP2 w R = P at *
              go_wp2_with fail
              exact HP.out
end Go.Proofs.Ytbfkmakfkbdafaa

namespace Go.Proofs.Ytbfkmakfkbdafaa
set_option maxRecDepth 100000

theorem name_eq (a b : ByteArray) : a.toList = b.toList ↔ a = b := by
  rw [ByteArray.toList_eq, ByteArray.toList_eq]
  constructor
  · intro h
    have h2 : a.data = b.data := by rw [← Array.toArray_toList (xs := a.data), h, Array.toArray_toList]
    cases a; cases b; simp_all
  · intro h; rw [h]
theorem name_yes {a b : ByteArray} (h : a = b) : (a.toList == b.toList) = true := by rw [h]; simp
theorem name_no {a b : ByteArray} (h : a ≠ b) : (a.toList == b.toList) = false := by
  rw [beq_eq_false_iff_ne]; exact fun e => h ((name_eq a b).1 e)

theorem atF_cons_eq {f : FileL} {r : List FileL} {n : ByteArray} (h : f.name = n) : atF (f :: r) n = 0 := by simp [atF, h]
theorem atF_cases : ∀ (fs : List FileL) (n : ByteArray), (∃ k : Nat, k < fs.length ∧ atF fs n = k ∧ (fs.getD k noF).name = n ∧ ∀ j, j < k → (fs.getD j noF).name ≠ n) ∨ (atF fs n = -1 ∧ ∀ j, j < fs.length → (fs.getD j noF).name ≠ n)
  | [], n => .inr ⟨rfl, fun j hj => by simp at hj⟩
  | f :: r, n => by
    by_cases h : f.name = n
    · exact .inl ⟨0, by simp, by simp [atF, h], by simpa using h, fun j hj => by omega⟩
    · rcases atF_cases r n with ⟨k, hk, e, hn, hno⟩ | ⟨e, hno⟩
      · refine .inl ⟨k + 1, by simp; omega, ?_, by simpa using hn, ?_⟩
        · rw [atF, if_neg h, if_neg (by omega), e]; rfl
        · intro j hj
          cases j with
          | zero => simpa using h
          | succ j => simpa using hno j (by omega)
      · refine .inr ⟨?_, ?_⟩
        · rw [atF, if_neg h, if_pos (by omega)]
        · intro j hj
          cases j with
          | zero => simpa using h
          | succ j => simpa using hno j (by simp at hj; omega)
theorem atF_at {fs : List FileL} {n : ByteArray} {k : Nat} (hk : k < fs.length) (hn : (fs.getD k noF).name = n) (hno : ∀ j, j < k → (fs.getD j noF).name ≠ n) : atF fs n = k := by
  rcases atF_cases fs n with ⟨m, hm, e, h1, h2⟩ | ⟨_, h2⟩
  · rcases Nat.lt_trichotomy m k with h | h | h
    · exact absurd h1 (hno m h)
    · rw [e, h]
    · exact absurd hn (h2 k h)
  · exact absurd hn (h2 k hk)
theorem atF_none {fs : List FileL} {n : ByteArray} (hno : ∀ j, j < fs.length → (fs.getD j noF).name ≠ n) : atF fs n = -1 := by
  rcases atF_cases fs n with ⟨m, hm, e, h1, h2⟩ | ⟨h, _⟩
  · exact absurd h1 (hno m hm)
  · exact h

/-- A name of 1 to MaxName bytes. -/
def nmB (n : ByteArray) : Bool := decide (1 ≤ n.size ∧ n.size ≤ 20)
/-- P3.1 of one file. -/
def okB (f : FileL) : Bool := nmB f.name && decide (f.data.length ≤ 100000) && decide (0 ≤ f.synced) && decide (f.synced ≤ f.data.length)
def distB : List FileL → Bool
  | [] => true
  | f :: r => r.all (fun g => !decide (g.name = f.name)) && distB r
/-- P3.1 -/
def mayB (fs : List FileL) : Bool := decide (fs.length ≤ 40) && fs.all okB && distB fs

theorem all_getD {p : FileL → Bool} : ∀ {fs : List FileL}, fs.all p = true ↔ ∀ i, i < fs.length → p (fs.getD i noF) = true
  | [] => by simp
  | f :: r => by
    rw [List.all_cons, Bool.and_eq_true, all_getD (fs := r)]
    constructor
    · rintro ⟨h1, h2⟩ i hi
      cases i with
      | zero => simpa using h1
      | succ i => simpa using h2 i (by simp at hi; omega)
    · intro h
      exact ⟨by simpa using h 0 (by simp), fun i hi => by simpa using h (i + 1) (by simp; omega)⟩
theorem dist_iff : ∀ {fs : List FileL}, distB fs = true ↔ ∀ i j, i < j → j < fs.length → (fs.getD i noF).name ≠ (fs.getD j noF).name
  | [] => by simp [distB]
  | f :: r => by
    rw [distB, Bool.and_eq_true, dist_iff (fs := r), all_getD]
    constructor
    · rintro ⟨h1, h2⟩ i j hij hj
      cases j with
      | zero => omega
      | succ j =>
        cases i with
        | zero =>
          have := h1 j (by simp at hj; omega)
          simp at this
          simpa using fun e => this e.symm
        | succ i => simpa using h2 i j (by omega) (by simp at hj; omega)
    · intro h
      refine ⟨fun i hi => ?_, fun i j hij hj => ?_⟩
      · have := h 0 (i + 1) (by omega) (by simp; omega)
        simp at this ⊢
        exact fun e => this e.symm
      · simpa using h (i + 1) (j + 1) (by omega) (by simp; omega)
theorem may_iff {fs : List FileL} : mayB fs = true ↔ fs.length ≤ 40 ∧ (∀ i, i < fs.length → okB (fs.getD i noF) = true) ∧ ∀ i j, i < j → j < fs.length → (fs.getD i noF).name ≠ (fs.getD j noF).name := by
  rw [mayB, Bool.and_eq_true, Bool.and_eq_true, all_getD, dist_iff, decide_eq_true_eq, and_assoc]
theorem may_long {fs : List FileL} (h : 40 < fs.length) : mayB fs = false := by
  rw [Bool.eq_false_iff]; intro e; have := (may_iff.1 e).1; omega
theorem may_bad {fs : List FileL} {k : Nat} (hk : k < fs.length) (h : okB (fs.getD k noF) = false) : mayB fs = false := by
  rw [Bool.eq_false_iff]; intro e; have := (may_iff.1 e).2.1 k hk; rw [h] at this; cases this
theorem may_twice {fs : List FileL} {k : Nat} (hk : k < fs.length) (h : atF fs (fs.getD k noF).name ≠ k) : mayB fs = false := by
  rw [Bool.eq_false_iff]; intro e
  have hd := (may_iff.1 e).2.2
  exact h (atF_at hk rfl (fun j hj => hd j k hj hk))
theorem may_good {fs : List FileL} (h1 : fs.length ≤ 40) (h2 : ∀ i, i < fs.length → okB (fs.getD i noF) = true) (h3 : ∀ i, i < fs.length → atF fs (fs.getD i noF).name = i) : mayB fs = true := by
  refine may_iff.2 ⟨h1, h2, fun i j hij hj e => ?_⟩
  have a := h3 i (by omega)
  have b := h3 j hj
  rw [e, b] at a
  omega
theorem ok_iff {f : FileL} : okB f = true ↔ nmB f.name = true ∧ f.data.length ≤ 100000 ∧ 0 ≤ f.synced ∧ f.synced ≤ f.data.length := by
  simp [okB, and_assoc]
theorem ok_name {f : FileL} (h : nmB f.name = false) : okB f = false := by simp [okB, h]
theorem ok_long {f : FileL} (h : 100000 < f.data.length) : okB f = false := by
  rw [Bool.eq_false_iff]; intro e; have := (ok_iff.1 e).2.1; omega
theorem ok_sync {f : FileL} (h : ¬ (0 ≤ f.synced ∧ f.synced ≤ f.data.length)) : okB f = false := by
  rw [Bool.eq_false_iff]; intro e; exact h (ok_iff.1 e).2.2
theorem ok_good {f : FileL} (h0 : nmB f.name = true) (h1 : f.data.length ≤ 100000) (h2 : 0 ≤ f.synced) (h3 : f.synced ≤ f.data.length) : okB f = true := ok_iff.2 ⟨h0, h1, h2, h3⟩

theorem getD_take {fs : List FileL} {k i : Nat} (h : i < k) : (fs.take k).getD i noF = fs.getD i noF := by
  rw [List.getD_eq_getElem?_getD, List.getD_eq_getElem?_getD, List.getElem?_take_of_lt h]
theorem take_snocF {fs : List FileL} {k : Nat} (h : k < fs.length) : fs.take (k + 1) = fs.take k ++ [fs.getD k noF] := by
  rw [List.take_succ_eq_append_getElem h, List.getD_eq_getElem?_getD, List.getElem?_eq_getElem h]; rfl
end Go.Proofs.Ytbfkmakfkbdafaa

namespace Go.Proofs.Ytbfkmakfkbdafaa
set_option maxRecDepth 100000
open Go.ChangeShapes Go.WideShapes Go.ChangeAt Go.RowKit

theorem inB_yes {n lo hi : Int} (h : lo ≤ n ∧ n ≤ hi) : inB n lo hi = true := in_yes h
theorem inB_no {n lo hi : Int} (h : ¬ (lo ≤ n ∧ n ≤ hi)) : inB n lo hi = false := in_no h

set_option maxHeartbeats 400000 in
theorem fileAt_any (v : Value) (fs : List FileL) (n : ByteArray) (w : World) (h : DiskR w v fs) :
    Calls Try.prog 37 #[.agg #[v], .string n] w fun e w' => e = .returned (.int .i64 (atF fs n)) ∧ Below w.heap.size w w' := by
  obtain ⟨a, cap, rfl, hc, hm, ha, hel⟩ := h
  have HEL : Hid (0 < fs.length → ∃ b off, a = some ⟨b, off, none⟩ ∧ b < w.heap.size ∧ ∃ vs : Nat → Value, ∀ i, i < fs.length → FileC w b (off + i * 3) (vs i) (fs.getD i noF)) := hel
  clear ha hel
  unfold maxLen at hm
  go_enter Try.func37, Try.ntmps37
  go_wp2_with fail
  go_loop [5] (fun i => ∃ k : Nat, k ≤ fs.length ∧ i = .int .i64 k ∧ ∀ j, j < k → (fs.getD j noF).name ≠ n) (fun i => fs.length - (intOf i).toNat)
  case atStart => exact ⟨0, by omega, rfl, fun j hj => by omega⟩
  case round =>
    obtain ⟨k, hk, rfl, hno⟩ := hrel
    have HNO : Hid (∀ j, j < k → (fs.getD j noF).name ≠ n) := hno
    clear hno
    by_cases hlt : k < fs.length
    · obtain ⟨b, off, rfl, lt, vs, hv⟩ := HEL.out (by omega)
      obtain ⟨c1, c2, c3, c4⟩ := (hv k hlt).below (below_alloc w (.cells #[.slice (some ⟨b, off, none⟩) fs.length cap] 40)) (Nat.le_refl _)
      clear c2 c3 c4 hv HEL
      by_cases hn : (fs.getD k noF).name = n
      · have HA : Hid (atF fs n = k) := atF_at hlt hn HNO.out
        have hne := name_yes hn
        clear hn
        generalize fs.getD k noF = f at *
        go_wp2_with fail
        go_ret
        exact ⟨ret_i64 HA.out.symm, below_alloc _ _⟩
      · have HN2 : Hid (∀ j, j < k + 1 → (fs.getD j noF).name ≠ n) := fun j hj => by
          rcases Nat.lt_succ_iff_lt_or_eq.1 hj with h | h
          · exact HNO.out j h
          · rw [h]; exact hn
        have hne := name_no hn
        clear hn
        generalize fs.getD k noF = f at c1 hne
        go_wp2_with fail
        go_round
        case rel => exact ⟨k + 1, by omega, by go_num, HN2.out⟩
        case measure => simp [intOf]; omega
    · have HA : Hid (atF fs n = -1) := atF_none (fun j hj => HNO.out j (by omega))
      go_wp2_with fail
      go_ret
      exact ⟨ret_i64 HA.out.symm, below_alloc _ _⟩
end Go.Proofs.Ytbfkmakfkbdafaa

namespace Go.Proofs.Ytbfkmakfkbdafaa
set_option maxRecDepth 100000
open Go.ChangeShapes Go.WideShapes Go.ChangeAt Go.RowKit

theorem size_alloc_le (w : World) (o : Obj) : (w.alloc o).heap.size ≤ w.heap.size + 1 := by simp

set_option maxHeartbeats 1000000 in
set_option maxRecDepth 100000 in
theorem diskMay_any (v : Value) (fs : List FileL) (w : World) (h : DiskR w v fs) :
    Calls Try.prog 36 #[.agg #[v]] w fun e w' => e = .returned (.bool (mayB fs)) ∧ Below w.heap.size w w' := by
  have HD : Hid (DiskR w v fs) := h
  obtain ⟨a, cap, rfl, hc, hm, ha, hel⟩ := h
  have HEL : Hid (0 < fs.length → ∃ b off, a = some ⟨b, off, none⟩ ∧ b < w.heap.size ∧ ∃ vs : Nat → Value, ∀ i, i < fs.length → FileC w b (off + i * 3) (vs i) (fs.getD i noF)) := hel
  clear ha hel
  unfold maxLen at hm
  by_cases hlong : 40 < fs.length
  · have HM : Hid (mayB fs = false) := may_long hlong
    have hl : (40 : Int) < (fs.length : Int) := by omega
    go_enter Try.func36, Try.ntmps36
    go_wp2_with fail
    go_ret
    exact ⟨ret_bool HM.out.symm, below_alloc _ _⟩
  · have hl : ¬ (40 : Int) < (fs.length : Int) := by omega
    go_enter Try.func36, Try.ntmps36
    go_wp2_with fail
    go_loopw [3] (fun i wr => ∃ k : Nat, k ≤ fs.length ∧ i = .int .i64 k ∧ (∀ j, j < k → okB (fs.getD j noF) = true ∧ atF fs (fs.getD j noF).name = j) ∧ Below (w.heap.size + 1) (w.alloc (.cells #[.slice a fs.length cap] 40)) wr) (fun i _ => fs.length - (intOf i).toNat)
    case atStart => exact ⟨0, by omega, rfl, fun j hj => by omega, Below.refl _ _⟩
    case round =>
      obtain ⟨k, hk, rfl, hok, hbel⟩ := hrel
      have HOK : Hid (∀ j, j < k → okB (fs.getD j noF) = true ∧ atF fs (fs.getD j noF).name = j) := hok
      have hbox := box_cell hbel
      have hbox2 := box_cell2 hbel
      have HB : Hid (Below (w.heap.size + 1) (w.alloc (.cells #[.slice a fs.length cap] 40)) wr) := hbel
      have hsz : w.heap.size + 1 ≤ wr.heap.size := by have := hbel.size; simpa using this
      clear hok hbel
      by_cases hlt : k < fs.length
      · have HDr : Hid (DiskR wr (.slice a fs.length cap) fs) := HD.out.below (box_below HB.out) (Nat.le_refl _)
        obtain ⟨b, off, rfl, lt, vs, hv⟩ := HEL.out (by omega)
        obtain ⟨c1, c2, c3, c4⟩ := ((hv k hlt).below (box_below HB.out) (Nat.le_refl _))
        obtain ⟨da, dc, hdv, _, _, _, _⟩ := c4
        rw [hdv] at c2
        have HNX : Hid (okB (fs.getD k noF) = true → atF fs (fs.getD k noF).name = k → ∀ j, j < k + 1 → okB (fs.getD j noF) = true ∧ atF fs (fs.getD j noF).name = j) := fun h1 h2 j hj => by
          rcases Nat.lt_succ_iff_lt_or_eq.1 hj with h | h
          · exact HOK.out j h
          · rw [h]; exact ⟨h1, h2⟩
        have HBAD : Hid (okB (fs.getD k noF) = false → mayB fs = false) := may_bad hlt
        have HTW : Hid (atF fs (fs.getD k noF).name ≠ k → mayB fs = false) := may_twice hlt
        clear hv HEL HD hdv
        generalize fs.getD k noF = f at *
        have fin : ∀ x, Below w.heap.size w (wr.alloc x) := fun x => (box_below HB.out).trans ((below_alloc wr x).mono (by omega))
        have FIN : Hid (∀ x, Below w.heap.size w (wr.alloc x)) := fin
        clear fin
        by_cases h1 : nmB f.name = true
        · have i1 : inB (f.name.size : Int) 1 20 = true := inB_yes (by simp [nmB] at h1; omega)
          by_cases h2 : 100000 < f.data.length
          · have HM : Hid (mayB fs = false) := HBAD.out (ok_long h2)
            have h2' : (100000 : Int) < (f.data.length : Int) := by omega
            clear h1
            go_wp2_with (first | (go_at_call 48; refine (in_any _ _ _ _).mono ?_; rintro e w' ⟨rfl, rfl⟩))
            go_ret
            exact ⟨ret_bool HM.out.symm, FIN.out _⟩
          · have h2' : ¬ (100000 : Int) < (f.data.length : Int) := by omega
            by_cases h3 : 0 ≤ f.synced ∧ f.synced ≤ f.data.length
            · have i2 : inB f.synced 0 f.data.length = true := inB_yes h3
              have HO : Hid (okB f = true) := ok_good h1 (by omega) h3.1 h3.2
              clear h1 h3
              go_wp2_with (first | (go_at_call 48; refine (in_any _ _ _ _).mono ?_; rintro e w' ⟨rfl, rfl⟩))
              refine (fileAt_any _ fs _ _ ?_).mono ?_
              · exact HDr.out.below (below_alloc _ _) (Nat.le_refl _)
              rintro e w2 ⟨rfl, hb2⟩
              have FB : Hid (Below (w.heap.size + 1) (w.alloc (.cells #[.slice (some ⟨b, off, none⟩) fs.length cap] 40)) w2) := HB.out.trans (((below_alloc wr _).trans (hb2.mono (by simp))).mono hsz)
              clear hb2
              by_cases h4 : atF fs f.name = k
              · have HA : Hid (atF fs f.name = k) := h4
                have h4' : (atF fs f.name != (k : Int)) = false := by simp [h4]
                clear h4
                generalize atF fs f.name = q at *
                go_wp2_with fail
                go_roundw
                case rel => exact ⟨k + 1, by omega, by go_num, HNX.out HO.out HA.out, FB.out⟩
                case measure => simp [intOf]; omega
              · have HM : Hid (mayB fs = false) := HTW.out h4
                have h4' : (atF fs f.name != (k : Int)) = true := by simp [h4]
                clear h4
                generalize atF fs f.name = q at *
                go_wp2_with fail
                go_ret
                exact ⟨ret_bool HM.out.symm, box_below FB.out⟩
            · have HM : Hid (mayB fs = false) := HBAD.out (ok_sync h3)
              have i2 : inB f.synced 0 f.data.length = false := inB_no h3
              clear h1 h3
              go_wp2_with (first | (go_at_call 48; refine (in_any _ _ _ _).mono ?_; rintro e w' ⟨rfl, rfl⟩))
              go_ret
              exact ⟨ret_bool HM.out.symm, FIN.out _⟩
        · have i1 : inB (f.name.size : Int) 1 20 = false := inB_no (by simp [nmB] at h1; omega)
          have HM : Hid (mayB fs = false) := HBAD.out (ok_name (by simpa using h1))
          clear h1
          go_wp2_with (first | (go_at_call 48; refine (in_any _ _ _ _).mono ?_; rintro e w' ⟨rfl, rfl⟩))
          go_ret
          exact ⟨ret_bool HM.out.symm, FIN.out _⟩
      · have HM : Hid (mayB fs = true) := may_good (by omega) (fun i hi => (HOK.out i (by omega)).1) (fun i hi => (HOK.out i (by omega)).2)
        go_wp2_with fail
        go_ret
        exact ⟨ret_bool HM.out.symm, box_below HB.out⟩
end Go.Proofs.Ytbfkmakfkbdafaa

namespace Go.Proofs.Ytbfkmakfkbdafaa
set_option maxRecDepth 100000
open Go.ChangeShapes Go.WideShapes Go.ChangeAt Go.RowKit

set_option maxHeartbeats 400000 in
theorem clone_any (v : Value) (xs : List Int) (w : World) (h : Reads .u8 w v xs) (hl : xs.length ≤ 140737488355328) :
    Calls Try.prog 72 #[v] w fun e w' =>
      ∃ v', e = .returned v' ∧ w'.ownsRow w.heap.size 5 1 v' xs.length (xs.map (Value.int .u8)) ∧ Below w.heap.size w w' := by
  have q22 : ∀ (w : World) (a : Option Addr) (n c n' c' : Nat), (binOp .eql 27 (.slice a n c) (.slice none n' c')).run Try.prog w = .ok (.bool a.isNone) w := fun w a n c n' c' => Lib.run_eql_slice_nil w _ _ a n c n' c' Try.underlying27
  have HR : Hid (Reads .u8 w v xs) := h
  obtain ⟨a, cap, rfl, hc, hm, ha, _⟩ := h
  cases a with
  | none =>
    have hcap := ha rfl
    have : xs = [] := List.eq_nil_of_length_eq_zero (by omega)
    subst this
    subst hcap
    clear ha
    go_enter Try.func72, Try.ntmps72
    go_wp2_with fail
    go_ret
    exact ⟨_, rfl, World.ownsRow_nil _ _ _ _, Below.refl _ _⟩
  | some x =>
    clear ha
    go_enter Try.func72, Try.ntmps72
    go_wp2_with (at_builtin; refine wpList_append_reads rfl _ _ rfl w.heap.size _ [] rfl (own_new0 w _ (Nat.le_refl _)) _ xs rfl (HR.out.below ((Below.refl _ _).alloc (Nat.le_refl _) _) (Nat.le_refl _)) (by simp; omega) (by simp) ?_)
    intro v2 w2 hown2 hbel2 _
    have B2 : Hid (Below w.heap.size w w2) := ((Below.refl _ _).alloc (Nat.le_refl _) _).trans hbel2
    have O2 : Hid (w2.ownsRow w.heap.size 5 1 v2 xs.length (xs.map (Value.int .u8))) := by simpa [Hid] using hown2
    clear hown2 hbel2
    go_wp2
    go_ret
    exact ⟨v2, rfl, O2.out, B2.out⟩

end Go.Proofs.Ytbfkmakfkbdafaa

namespace Go.Proofs.Ytbfkmakfkbdafaa
set_option maxRecDepth 100000
open Go.ChangeShapes Go.WideShapes Go.ChangeAt Go.RowKit

theorem str_empty_size (n : ByteArray) (h : n.size = 0) : n.toList.isEmpty = true := by
  rw [ByteArray.toList_eq]
  have : n.data.toList.length = 0 := by simpa using h
  rw [List.eq_nil_of_length_eq_zero this]; rfl
theorem str_some_size (n : ByteArray) (h : 0 < n.size) : n.toList.isEmpty = false := by
  rw [ByteArray.toList_eq]
  have : 0 < n.data.toList.length := by simpa using h
  cases hh : n.data.toList with
  | nil => rw [hh] at this; simp at this
  | cons a r => rfl

set_option maxHeartbeats 400000 in
theorem nameMay_any (n : ByteArray) (w : World) (hn : n.size ≤ maxLen) : Calls Try.prog 77 #[.string n] w fun e w' => e = .returned (.bool (nmB n)) ∧ w' = w := by
  unfold maxLen at hn
  by_cases h1 : n.size = 0
  · have H : Hid (nmB n = false) := by simp [nmB, Hid, h1]
    have he := str_empty_size n h1
    clear h1
    go_enter Try.func77, Try.ntmps77
    go_wp2
    go_ret
    exact ⟨ret_bool H.out.symm, rfl⟩
  · have he := str_some_size n (by omega)
    by_cases h2 : n.size ≤ 20
    · have H : Hid (nmB n = true) := by simp [nmB, Hid]; omega
      have h2' : (n.size : Int) ≤ 20 := by omega
      go_enter Try.func77, Try.ntmps77
      go_wp2
      go_ret
      exact ⟨ret_bool H.out.symm, rfl⟩
    · have H : Hid (nmB n = false) := by simp [nmB, Hid]; omega
      have h2' : ¬ (n.size : Int) ≤ 20 := by omega
      go_enter Try.func77, Try.ntmps77
      go_wp2
      go_ret
      exact ⟨ret_bool H.out.symm, rfl⟩

set_option maxHeartbeats 800000 in
theorem fileMay_any (f : FileL) (a : Option Addr) (cap : Nat) (w : World) (hn : f.name.size ≤ maxLen) (hd : f.data.length ≤ maxLen) :
    Calls Try.prog 82 #[.agg #[.string f.name, .slice a f.data.length cap, .int .i64 f.synced]] w fun e w' => e = .returned (.bool (okB f)) ∧ Below w.heap.size w w' := by
  unfold maxLen at hd
  by_cases h1 : nmB f.name = true
  · by_cases h2 : f.data.length ≤ 100000
    · by_cases h3 : 0 ≤ f.synced
      · by_cases h4 : f.synced ≤ f.data.length
        · have H : Hid (okB f = true) := ok_good h1 h2 h3 h4
          have h2' : (f.data.length : Int) ≤ 100000 := by omega
          go_enter Try.func82, Try.ntmps82
          go_wp2_with (first | (go_at_call 77; refine (nameMay_any _ _ hn).mono ?_; rintro e w' ⟨rfl, rfl⟩))
          go_ret
          exact ⟨ret_bool H.out.symm, below_alloc _ _⟩
        · have H : Hid (okB f = false) := ok_sync (fun h => h4 h.2)
          have h2' : (f.data.length : Int) ≤ 100000 := by omega
          go_enter Try.func82, Try.ntmps82
          go_wp2_with (first | (go_at_call 77; refine (nameMay_any _ _ hn).mono ?_; rintro e w' ⟨rfl, rfl⟩))
          go_ret
          exact ⟨ret_bool (by rw [H.out]; simpa using h4), below_alloc _ _⟩
      · have H : Hid (okB f = false) := ok_sync (fun h => h3 h.1)
        have h2' : (f.data.length : Int) ≤ 100000 := by omega
        go_enter Try.func82, Try.ntmps82
        go_wp2_with (first | (go_at_call 77; refine (nameMay_any _ _ hn).mono ?_; rintro e w' ⟨rfl, rfl⟩))
        go_ret
        exact ⟨ret_bool H.out.symm, below_alloc _ _⟩
    · have H : Hid (okB f = false) := ok_long (by omega)
      have h2' : ¬ (f.data.length : Int) ≤ 100000 := by omega
      go_enter Try.func82, Try.ntmps82
      go_wp2_with (first | (go_at_call 77; refine (nameMay_any _ _ hn).mono ?_; rintro e w' ⟨rfl, rfl⟩))
      go_ret
      exact ⟨ret_bool H.out.symm, below_alloc _ _⟩
  · have h1' : nmB f.name = false := by simpa using h1
    have H : Hid (okB f = false) := ok_name h1'
    clear h1
    go_enter Try.func82, Try.ntmps82
    go_wp2_with (first | (go_at_call 77; refine (nameMay_any _ _ hn).mono ?_; rintro e w' ⟨rfl, rfl⟩))
    go_ret
    exact ⟨ret_bool H.out.symm, below_alloc _ _⟩

end Go.Proofs.Ytbfkmakfkbdafaa

namespace Go.Proofs.Ytbfkmakfkbdafaa
set_option maxRecDepth 100000
open Go.ChangeShapes Go.WideShapes Go.ChangeAt Go.RowKit Go.Maps

def keyF (f : FileL) : Lit := .string f.name.data.toList
def keyL (fs : List FileL) : List Lit := fs.map keyF
theorem keyF_key (f : FileL) : WideAt.IsKeyLit (keyF f) := trivial
theorem keyL_key (fs : List FileL) : ∀ x ∈ keyL fs, WideAt.IsKeyLit x := by
  intro x hx
  obtain ⟨f, _, rfl⟩ := List.mem_map.1 hx
  exact keyF_key f
theorem keyF_inj {f g : FileL} : keyF f = keyF g ↔ f.name = g.name := by
  rw [← name_eq, ByteArray.toList_eq, ByteArray.toList_eq]
  constructor
  · intro h; injection h
  · intro h; unfold keyF; rw [h]
theorem any_same {acc : List Lit} {f : FileL} : acc.any (fun y => y.sameKey (keyF f)) = true ↔ keyF f ∈ acc := by
  rw [List.any_eq_true]
  constructor
  · rintro ⟨y, hy, h⟩
    rw [(WideAt.sameKey_iff (keyF_key f)).1 h] at hy
    exact hy
  · intro h; exact ⟨_, h, WideAt.sameKey_self (keyF_key f)⟩
theorem addKey_in {acc : List Lit} {f : FileL} (h : keyF f ∈ acc) : addKey acc (keyF f) = acc := by rw [addKey, if_pos (any_same.2 h)]
theorem addKey_out {acc : List Lit} {f : FileL} (h : keyF f ∉ acc) : addKey acc (keyF f) = acc ++ [keyF f] := by rw [addKey, if_neg (fun e => h (any_same.1 e))]
theorem fold_le : ∀ (fs : List FileL) (acc : List Lit), ((keyL fs).foldl addKey acc).length ≤ acc.length + fs.length
  | [], acc => by simp [keyL]
  | f :: r, acc => by
    have ih := fold_le r (addKey acc (keyF f))
    have : (addKey acc (keyF f)).length ≤ acc.length + 1 := by
      by_cases h : keyF f ∈ acc
      · rw [addKey_in h]; omega
      · rw [addKey_out h]; simp
    simp only [keyL, List.map_cons, List.foldl_cons, List.length_cons] at *
    omega
theorem fold_eq : ∀ (fs : List FileL) (acc : List Lit), ((keyL fs).foldl addKey acc).length = acc.length + fs.length ↔ distB fs = true ∧ ∀ f ∈ fs, keyF f ∉ acc
  | [], acc => by simp [keyL, distB]
  | f :: r, acc => by
    have e : ((keyL (f :: r)).foldl addKey acc).length = ((keyL r).foldl addKey (addKey acc (keyF f))).length := rfl
    rw [e]
    by_cases h : keyF f ∈ acc
    · rw [addKey_in h]
      have := fold_le r acc
      constructor
      · intro h2; simp only [List.length_cons] at h2; omega
      · rintro ⟨_, h2⟩; exact absurd h (h2 f (by simp))
    · rw [addKey_out h]
      have ih := fold_eq r (acc ++ [keyF f])
      have e2 : (acc ++ [keyF f]).length + r.length = acc.length + (f :: r).length := by simp; omega
      rw [← e2, ih, distB, Bool.and_eq_true, List.all_eq_true]
      constructor
      · rintro ⟨h1, h2⟩
        refine ⟨⟨fun g hg => ?_, h1⟩, fun g hg => ?_⟩
        · have := h2 g hg
          simp only [List.mem_append, List.mem_singleton, not_or] at this
          simpa using fun e => this.2 (keyF_inj.2 e)
        · rcases List.mem_cons.1 hg with rfl | hg
          · exact h
          · have := h2 g hg
            simp only [List.mem_append, List.mem_singleton, not_or] at this
            exact this.1
      · rintro ⟨⟨h1, h2⟩, h3⟩
        refine ⟨h2, fun g hg => ?_⟩
        simp only [List.mem_append, List.mem_singleton, not_or]
        refine ⟨h3 g (by simp [hg]), fun e => ?_⟩
        have := h1 g hg
        simp at this
        exact this (keyF_inj.1 e)
/-- How many names there are. -/
theorem size_names (fs : List FileL) : size (setOf (.agg [] : DataW Unit) (keyL fs)) = fs.length ↔ distB fs = true := by
  rw [size_setOf _ _ (keyL_key fs)]
  have := fold_eq fs []
  simpa using this
theorem keyL_snoc {fs : List FileL} {k : Nat} (h : k < fs.length) : keyL (fs.take (k + 1)) = keyL (fs.take k) ++ [keyF (fs.getD k noF)] := by
  rw [take_snocF h]; simp [keyL]

theorem ownsMap_below {w w' : World} {B b n : Nat} {k : TypeId} {D : DataW Unit} (h : w.ownsMap Try.prog k unitElem b n D) (hb : Below B w w') (hB : b < B) : w'.ownsMap Try.prog k unitElem b n D := by
  obtain ⟨es, cl, h1, h2⟩ := h
  exact ⟨es, cl, (hb.block b hB).trans h1, h2⟩
theorem law9 : Keyed Try.prog 9 := string_keyed Try.underlying9

set_option maxHeartbeats 1000000 in
set_option maxRecDepth 100000 in
theorem mayBe_any (pb : Nat) (v : Value) (fs : List FileL) (w : World) (hp : w.cell? ⟨pb, 0, none⟩ = some v) (h : DiskR w v fs) (hg : Good fs) :
    Calls Try.prog 73 #[.pointer (some ⟨pb, 0, none⟩)] w fun e w' => e = .returned (.bool (mayB fs)) ∧ Below w.heap.size w w' := by
  have hmm := @run_makeMap Try.prog
  have lp : pb < w.heap.size := World.block_lt_of_cell? w _ hp
  have HG : Hid (Good fs) := hg
  obtain ⟨a, cap, rfl, hc, hm, ha, hel⟩ := h
  have HEL : Hid (0 < fs.length → ∃ b off, a = some ⟨b, off, none⟩ ∧ b < w.heap.size ∧ ∃ vs : Nat → Value, ∀ i, i < fs.length → FileC w b (off + i * 3) (vs i) (fs.getD i noF)) := hel
  clear ha hel hg
  unfold maxLen at hm
  by_cases hlong : 40 < fs.length
  · have HM : Hid (mayB fs = false) := may_long hlong
    have hl : (40 : Int) < (fs.length : Int) := by omega
    go_enter Try.func73, Try.ntmps73
    go_wp2_with fail
    go_ret
    exact ⟨ret_bool HM.out.symm, Below.refl _ _⟩
  · have hl : ¬ (40 : Int) < (fs.length : Int) := by omega
    have hpm : ∀ X, (w.alloc X).cell? ⟨pb, 0, none⟩ = some (.slice a fs.length cap) := fun X => ((below_alloc w X).cell (p := ⟨pb, 0, none⟩) lp).trans hp
    go_enter Try.func73, Try.ntmps73
    go_wp2_with fail
    go_loopw [20] (fun i wr => ∃ k : Nat, k ≤ fs.length ∧ i = .int .i64 k ∧ (∀ j, j < k → okB (fs.getD j noF) = true) ∧ wr.ownsMap Try.prog 9 unitElem w.heap.size k (setOf (.agg [] : DataW Unit) (keyL (fs.take k))) ∧ Below w.heap.size w wr) (fun i _ => fs.length - (intOf i).toNat)
    case atStart => exact ⟨0, by omega, rfl, fun j hj => by omega, World.ownsMap_made _ _ _ _, below_alloc _ _⟩
    case round =>
      obtain ⟨k, hk, rfl, hok, hown, hbel⟩ := hrel
      have HOK : Hid (∀ j, j < k → okB (fs.getD j noF) = true) := hok
      have HO : Hid (wr.ownsMap Try.prog 9 unitElem w.heap.size k (setOf (.agg [] : DataW Unit) (keyL (fs.take k)))) := hown
      have HB : Hid (Below w.heap.size w wr) := hbel
      have hpr : wr.cell? ⟨pb, 0, none⟩ = some (.slice a fs.length cap) := (hbel.cell (p := ⟨pb, 0, none⟩) lp).trans hp
      have hsz := hown.lt
      clear hok hown hbel
      by_cases hlt : k < fs.length
      · obtain ⟨b, off, rfl, lt, vs, hv⟩ := HEL.out (by omega)
        obtain ⟨c1, c2, c3, c4⟩ := ((hv k hlt).below HB.out (Nat.le_refl _))
        obtain ⟨da, dc, hdv, hd1, hd2, _, _⟩ := c4
        rw [hdv] at c2
        have hgd := HG.out k hlt
        have hnm : (fs.getD k noF).name.size ≤ maxLen := hgd.2.2.2.1
        have hdl : (fs.getD k noF).data.length ≤ maxLen := by omega
        have HNX : Hid (okB (fs.getD k noF) = true → ∀ j, j < k + 1 → okB (fs.getD j noF) = true) := fun h1 j hj => by
          rcases Nat.lt_succ_iff_lt_or_eq.1 hj with h | h
          · exact HOK.out j h
          · rw [h]; exact h1
        have HBAD : Hid (okB (fs.getD k noF) = false → mayB fs = false) := may_bad hlt
        have HKS : Hid (setOf (.agg [] : DataW Unit) (keyL (fs.take (k + 1))) = (setOf (.agg [] : DataW Unit) (keyL (fs.take k))).put (keyF (fs.getD k noF)) (.agg [])) := by
          show _ = _
          rw [keyL_snoc hlt, setOf_snoc]
        clear hv HEL hdv hd1 hd2 hgd
        generalize fs.getD k noF = f at *
        go_wp2_with fail
        refine (fileMay_any f da dc _ hnm hdl).mono ?_
        rintro e w2 ⟨rfl, hb2⟩
        have B2 : Hid (Below wr.heap.size wr w2) := (below_alloc wr _).trans (hb2.mono (by simp))
        have hb3 : Below (wr.heap.size + 1) (wr.alloc (.cells #[.string f.name, .slice da f.data.length dc, .int .i64 f.synced] 68)) w2 := by simpa using hb2
        have n1 : w2.cell? ⟨wr.heap.size, 0, none⟩ = some (.string f.name) := (hb3.cell (p := ⟨wr.heap.size, 0, none⟩) (Nat.lt_succ_self _)).trans (by simp)
        have O2 : Hid (w2.ownsMap Try.prog 9 unitElem w.heap.size k (setOf (.agg [] : DataW Unit) (keyL (fs.take k)))) := ownsMap_below HO.out B2.out hsz
        have hs2 : w.heap.size ≤ w2.heap.size := by have := B2.out.size; omega
        clear hb2 hb3
        by_cases h1 : okB f = true
        · go_wp2_with (at_mapUpdate; go_must (refine wpList_mapUpdate_own _ rfl _ _ _ 122 rfl 9 124 law9 Try.underlying122 (unitElem (H := Unit)) w.heap.size k _ rfl O2.out (by unfold maxLen; omega) _ _ _ rfl rfl (WideMaps.keyOf_string_mk Try.underlying9 hnm) _ [] unitElem_mk ?_))
          intro w3 hown3 hgrow3
          have O3 : Hid (w3.ownsMap Try.prog 9 unitElem w.heap.size (k + 1) (setOf (.agg [] : DataW Unit) (keyL (fs.take (k + 1))))) := by show World.ownsMap _ _ _ _ _ _ _; rw [HKS.out]; exact hown3
          have B3 : Hid (Below w.heap.size w w3) := (HB.out.trans (B2.out.mono (by omega))).grown hgrow3 hs2 (fun j hj => by cases hj; exact Nat.le_refl _)
          clear hown3 hgrow3
          go_wp2_with fail
          go_roundw
          case rel => exact ⟨k + 1, by omega, by go_num, HNX.out h1, O3.out, B3.out⟩
          case measure => simp [intOf]; omega
        · have h1' : okB f = false := by simpa using h1
          have HM : Hid (mayB fs = false) := HBAD.out h1'
          clear h1
          go_wp2_with fail
          go_ret
          exact ⟨ret_bool HM.out.symm, HB.out.trans (B2.out.mono (by omega))⟩
      · have ek : fs.take k = fs := List.take_of_length_le (by omega)
        have O2 := HO.out
        rw [ek] at O2
        have hlen1 := O2.len Try.underlying122 3
        have hlen2 := O2.drew.len Try.underlying122 3
        have HD : Hid (size (setOf (.agg [] : DataW Unit) (keyL fs)) = fs.length ↔ distB fs = true) := size_names fs
        have HM : Hid (mayB fs = distB fs) := by
          have h1 : fs.all okB = true := all_getD.2 (fun i hi => HOK.out i (by omega))
          have h2 : decide (fs.length ≤ 40) = true := by simp; omega
          simp [Hid, mayB, h1, h2]
        clear ek O2
        generalize size (setOf (.agg [] : DataW Unit) (keyL fs)) = q at *
        go_wp2_with fail
        go_region
        all_goals
          go_wp2_with fail
          go_ret
          refine ⟨ret_bool ?_, HB.out.drew⟩
          rw [HM.out]
          by_cases hd : distB fs = true
          · rw [hd]
            have := HD.out.2 hd
            simp [this]
          · have : ¬ q = fs.length := fun e => hd (HD.out.1 e)
            have hd' : distB fs = false := by simpa using hd
            rw [hd']
            simp
            omega
end Go.Proofs.Ytbfkmakfkbdafaa

namespace Go.Proofs.Ytbfkmakfkbdafaa
set_option maxRecDepth 100000
open Go.ChangeShapes Go.WideShapes Go.ChangeAt Go.RowKit

set_option maxHeartbeats 400000 in
theorem find1_any (m n : ByteArray) (dv : Value) (s : Int) (a : Option Addr) (l c q : Nat) (hdv : dv = .slice a l c) (w : World) (hq : w.cell? ⟨q, 0, none⟩ = some (.string n)) :
    Calls Try.prog 84 #[.agg #[.string m, dv, .int .i64 s], .pointer (some ⟨q, 0, none⟩)] w fun e w' => e = .returned (.bool (m.toList == n.toList)) ∧ Below w.heap.size w w' := by
  subst hdv
  have lq : q < w.heap.size := World.block_lt_of_cell? w _ hq
  have hq2 : ∀ X, (w.alloc X).cell? ⟨q, 0, none⟩ = some (.string n) := fun X => ((below_alloc w X).cell (p := ⟨q, 0, none⟩) lq).trans hq
  go_enter Try.func84, Try.ntmps84
  go_wp2_with fail
  go_ret
  exact ⟨rfl, below_alloc _ _⟩

set_option maxHeartbeats 800000 in
theorem indexFunc_any (v : Value) (fs : List FileL) (n : ByteArray) (q : Nat) (w : World) (h : DiskR w v fs) (hq : w.cell? ⟨q, 0, none⟩ = some (.string n)) :
    Calls Try.prog 83 #[v, .func (.func 84) #[] #[.pointer (some ⟨q, 0, none⟩)]] w fun e w' => e = .returned (.int .i64 (atF fs n)) ∧ Below w.heap.size w w' := by
  have lq : q < w.heap.size := World.block_lt_of_cell? w _ hq
  obtain ⟨a, cap, rfl, hc, hm, ha, hel⟩ := h
  have HEL : Hid (0 < fs.length → ∃ b off, a = some ⟨b, off, none⟩ ∧ b < w.heap.size ∧ ∃ vs : Nat → Value, ∀ i, i < fs.length → FileC w b (off + i * 3) (vs i) (fs.getD i noF)) := hel
  clear ha hel
  unfold maxLen at hm
  go_enter Try.func83, Try.ntmps83
  go_wp2_with fail
  go_loopw [8] (fun i wr => ∃ k : Nat, k ≤ fs.length ∧ i = .int .i64 k ∧ (∀ j, j < k → (fs.getD j noF).name ≠ n) ∧ Below w.heap.size w wr) (fun i _ => fs.length - (intOf i).toNat)
  case atStart => exact ⟨0, by omega, rfl, fun j hj => by omega, Below.refl _ _⟩
  case round =>
    obtain ⟨k, hk, rfl, hno, hbel⟩ := hrel
    have HNO : Hid (∀ j, j < k → (fs.getD j noF).name ≠ n) := hno
    have HB : Hid (Below w.heap.size w wr) := hbel
    have hqr : wr.cell? ⟨q, 0, none⟩ = some (.string n) := (hbel.cell (p := ⟨q, 0, none⟩) lq).trans hq
    have hsr := hbel.size
    clear hno hbel
    by_cases hlt : k < fs.length
    · obtain ⟨b, off, rfl, lt, vs, hv⟩ := HEL.out (by omega)
      obtain ⟨c1, c2, c3, c4⟩ := (hv k hlt).below HB.out (Nat.le_refl _)
      obtain ⟨da, dc, hdv, _, _, _, _⟩ := c4
      rw [hdv] at c2
      clear hv HEL hdv
      by_cases hn : (fs.getD k noF).name = n
      · have HA : Hid (atF fs n = k) := atF_at hlt hn HNO.out
        have hne := name_yes hn
        clear hn
        generalize fs.getD k noF = f at *
        go_wp2_with fail
        refine (find1_any f.name n _ f.synced da f.data.length dc q rfl _ hqr).mono ?_
        rintro e w2 ⟨rfl, hb2⟩
        rw [hne]
        go_wp2_with fail
        go_ret
        exact ⟨ret_i64 HA.out.symm, HB.out.trans (hb2.mono hsr)⟩
      · have HN2 : Hid (∀ j, j < k + 1 → (fs.getD j noF).name ≠ n) := fun j hj => by
          rcases Nat.lt_succ_iff_lt_or_eq.1 hj with h | h
          · exact HNO.out j h
          · rw [h]; exact hn
        have hne := name_no hn
        clear hn
        generalize fs.getD k noF = f at c1 c2 c3 hne
        go_wp2_with fail
        refine (find1_any f.name n _ f.synced da _ dc q rfl _ hqr).mono ?_
        rintro e w2 ⟨rfl, hb2⟩
        rw [hne]
        go_wp2_with fail
        go_roundw
        case rel => exact ⟨k + 1, by omega, by go_num, HN2.out, HB.out.trans (hb2.mono hsr)⟩
        case measure => simp [intOf]; omega
    · have HA : Hid (atF fs n = -1) := atF_none (fun j hj => HNO.out j (by omega))
      go_wp2_with fail
      go_ret
      exact ⟨ret_i64 HA.out.symm, HB.out⟩

set_option maxHeartbeats 400000 in
theorem find_any (pb : Nat) (v : Value) (fs : List FileL) (n : ByteArray) (w : World) (hp : w.cell? ⟨pb, 0, none⟩ = some v) (h : DiskR w v fs) :
    Calls Try.prog 75 #[.pointer (some ⟨pb, 0, none⟩), .string n] w fun e w' => e = .returned (.int .i64 (atF fs n)) ∧ Below w.heap.size w w' := by
  have lp : pb < w.heap.size := World.block_lt_of_cell? w _ hp
  have HD : Hid (DiskR w v fs) := h
  obtain ⟨a, cap, rfl, _, _, _, _⟩ := h
  have hmf : ∀ (fn : Fn) (first cap : Array Value) (w : World), (Instr.makeFunc fn first cap).run Try.prog w = .ok (.func fn first cap) w := fun _ _ _ _ => rfl
  have hp2 : ∀ X, (w.alloc X).cell? ⟨pb, 0, none⟩ = some (.slice a fs.length cap) := fun X => ((below_alloc w X).cell (p := ⟨pb, 0, none⟩) lp).trans hp
  go_enter Try.func75, Try.ntmps75
  go_wp2_with fail
  refine (indexFunc_any _ fs n w.heap.size _ ?_ ?_).mono ?_
  · exact HD.out.below (below_alloc _ _) (Nat.le_refl _)
  · exact cell_new0 _ _ _
  rintro e w2 ⟨rfl, hb2⟩
  have B2 : Hid (Below w.heap.size w w2) := (below_alloc w _).trans (hb2.mono (by simp))
  clear hb2
  go_wp2_with fail
  go_ret
  exact ⟨rfl, B2.out⟩
end Go.Proofs.Ytbfkmakfkbdafaa

namespace Go.Proofs.Ytbfkmakfkbdafaa
set_option maxRecDepth 100000
open Go.ChangeShapes Go.WideShapes Go.ChangeAt Go.RowKit

theorem Try.infoF : (Try.prog.info? 68).map (fun i => (i.zero, i.size, i.bytes)) = some (some (.agg #[.string ByteArray.empty, .slice none 0 0, .int .i64 0]), 3, 48) := by kernel_rfl

/-- The cells of files. -/
def rows : List FileL → List Value → List Value
  | f :: r, v :: vs => .string f.name :: v :: .int .i64 f.synced :: rows r vs
  | _, _ => []
theorem rows_len : ∀ {fs : List FileL} {vs : List Value}, vs.length = fs.length → (rows fs vs).length = fs.length * 3
  | [], [], _ => rfl
  | f :: r, v :: vs, h => by
    have := rows_len (fs := r) (vs := vs) (by simpa using h)
    simp only [rows, List.length_cons, this]; omega
theorem rows_snoc : ∀ {fs : List FileL} {vs : List Value} (f : FileL) (v : Value), vs.length = fs.length → rows (fs ++ [f]) (vs ++ [v]) = rows fs vs ++ [.string f.name, v, .int .i64 f.synced]
  | [], [], f, v, _ => rfl
  | g :: r, u :: vs, f, v, h => by
    have := rows_snoc (fs := r) (vs := vs) f v (by simpa using h)
    simp only [List.cons_append, rows, this]
theorem rows_at : ∀ {fs : List FileL} {vs : List Value} (i : Nat), vs.length = fs.length → i < fs.length →
    (rows fs vs)[i * 3]? = some (.string (fs.getD i noF).name) ∧ (rows fs vs)[i * 3 + 1]? = some (vs.getD i undef) ∧ (rows fs vs)[i * 3 + 2]? = some (.int .i64 (fs.getD i noF).synced)
  | [], _, i, _, h => by simp at h
  | f :: r, [], i, h, _ => by simp at h
  | f :: r, v :: vs, 0, _, _ => by simp [rows]
  | f :: r, v :: vs, i + 1, h, hi => by
    have := rows_at (fs := r) (vs := vs) i (by simpa using h) (by simpa using hi)
    have e1 : (i + 1) * 3 = i * 3 + 3 := by omega
    rw [e1]
    simpa [rows] using this

/-- A disk of the call's own. -/
structure OwnD (w : World) (base : Nat) (v : Value) (fs : List FileL) (vs : List Value) : Prop where
  len : vs.length = fs.length
  row : w.ownsRow base 68 3 v fs.length (rows fs vs)
  data : ∀ i, i < fs.length → w.ownsRow base 5 1 (vs.getD i undef) (fs.getD i noF).data.length ((fs.getD i noF).data.map (Value.int .u8))
  apart : ∀ i j, i < j → j < fs.length → (vs.getD j undef).ownBlock = none ∨ (vs.getD j undef).ownBlock ≠ (vs.getD i undef).ownBlock

theorem OwnD.nil (w : World) (base : Nat) : OwnD w base (.slice none 0 0) [] [] := ⟨rfl, World.ownsRow_nil _ _ _ _, fun i hi => by simp at hi, fun i j _ hj => by simp at hj⟩
theorem OwnD.below {w w' : World} {base B : Nat} {v : Value} {fs : List FileL} {vs : List Value} (h : OwnD w base v fs vs) (hb : Below B w w') (hB : w.heap.size ≤ B) : OwnD w' base v fs vs :=
  ⟨h.len, own_below h.row hb hB, fun i hi => own_below (h.data i hi) hb hB, h.apart⟩
theorem OwnD.lower {w : World} {base B : Nat} {v : Value} {fs : List FileL} {vs : List Value} (h : OwnD w B v fs vs) (hB : base ≤ B) : OwnD w base v fs vs :=
  ⟨h.len, own_lower h.row hB, fun i hi => own_lower (h.data i hi) hB, h.apart⟩
theorem OwnD.files {w : World} {base : Nat} {v : Value} {fs : List FileL} {vs : List Value} (h : OwnD w base v fs vs) {g n cap : Nat} (hv : v = .slice (some ⟨g, 0, none⟩) n cap) :
    ∀ i, i < fs.length → FileC w g (i * 3) (vs.getD i undef) (fs.getD i noF) := fun i hi => by
  subst hv
  obtain ⟨r1, r2, r3⟩ := rows_at i h.len hi
  have c1 := h.row.cells rfl _ _ r1
  have c2 := h.row.cells rfl _ _ r2
  have c3 := h.row.cells rfl _ _ r3
  rw [addr_add] at c1 c2 c3
  exact ⟨c1, c2, c3, reads_own (h.data i hi)⟩
theorem OwnD.shape {w : World} {base : Nat} {v : Value} {fs : List FileL} {vs : List Value} (h : OwnD w base v fs vs) :
    (v = .slice none 0 0 ∧ fs = []) ∨ ∃ g cap, v = .slice (some ⟨g, 0, none⟩) fs.length cap ∧ base ≤ g ∧ g < w.heap.size ∧ fs.length ≤ cap ∧ cap ≤ maxLen := by
  rcases h.row.2 with ⟨hv, h0⟩ | ⟨g, cap, cur, hv, hg, hgg, hc, hm, _⟩
  · exact .inl ⟨hv, List.eq_nil_of_length_eq_zero h0⟩
  · exact .inr ⟨g, cap, hv, hg, (Array.getElem?_eq_some_iff.1 hgg).1, hc, hm⟩
theorem OwnD.reads {w : World} {base : Nat} {v : Value} {fs : List FileL} {vs : List Value} (h : OwnD w base v fs vs) : DiskR w v fs := by
  rcases h.shape with ⟨rfl, rfl⟩ | ⟨g, cap, hv, hg, lt, hc, hm⟩
  · exact ⟨none, 0, rfl, by simp, by simp [maxLen], fun _ => rfl, fun hn => by simp at hn⟩
  · have hf := h.files hv
    subst hv
    refine ⟨_, cap, rfl, hc, hm, fun e => (by cases e), fun _ => ⟨g, 0, rfl, lt, fun i => vs.getD i undef, fun i hi => ?_⟩⟩
    have := hf i hi
    simpa using this
theorem OwnD.frozen {w : World} {base : Nat} {fs : List FileL} {vs : List Value} {g n cap : Nat} (h : OwnD w base (.slice (some ⟨g, 0, none⟩) n cap) fs vs) (j : Nat) : w.frozen? ⟨g, j, none⟩ = false := by
  rcases h.row.2 with ⟨hv, _⟩ | ⟨g', cap', cur, hv, _, hgg, _⟩
  · cases hv
  · injection hv with h1 _ _
    injection h1 with h1
    injection h1 with h1
    subst h1
    simp only [World.frozen?, hgg]
    simp
/-- One file more, behind the others: its data lies apart from theirs. -/
theorem OwnD.snoc {w w' : World} {base B : Nat} {v v' dv : Value} {fs : List FileL} {vs : List Value} {f : FileL} (h : OwnD w base v fs vs)
    (hrow : w'.ownsRow base 68 3 v' (fs.length + 1) (rows fs vs ++ [.string f.name, dv, .int .i64 f.synced])) (hg : w.grownBy w' v.ownBlock)
    (hd : w.ownsRow B 5 1 dv f.data.length (f.data.map (Value.int .u8))) (hB : base ≤ B) (hnew : ∀ i, i < fs.length → ∀ k, (vs.getD i undef).ownBlock = some k → k < B) : OwnD w' base v' (fs ++ [f]) (vs ++ [dv]) := by
  refine ⟨by simp [h.len], by rw [rows_snoc _ _ h.len]; simpa using hrow, ?_, ?_⟩
  · intro i hi
    by_cases hlt : i < fs.length
    · rw [getD_app_left (by rw [h.len]; exact hlt), getD_app_left hlt]
      exact (h.data i hlt).kept hg (own_apart (h.data i hlt) h.row (by decide))
    · have e : i = fs.length := by simp at hi; omega
      subst e
      rw [getD_app_last]
      have e2 : (vs ++ [dv]).getD fs.length undef = dv := by rw [← h.len]; exact getD_app_last
      rw [e2]
      exact (own_lower hd hB).kept hg (own_apart hd h.row (by decide))
  · intro i j hij hj
    by_cases hlt : j < fs.length
    · rw [getD_app_left (by rw [h.len]; exact hlt), getD_app_left (by rw [h.len]; omega)]
      exact h.apart i j hij hlt
    · have e : j = fs.length := by simp at hj; omega
      subst e
      have e2 : (vs ++ [dv]).getD fs.length undef = dv := by rw [← h.len]; exact getD_app_last
      rw [e2, getD_app_left (by rw [h.len]; omega)]
      rcases hd.2 with ⟨hv, _⟩ | ⟨g, cap, cur, hv, hgB, _⟩
      · subst hv; exact .inl rfl
      · subst hv
        refine .inr fun e => ?_
        have := hnew i (by omega) g e.symm
        omega
theorem OwnD.lt {w : World} {base : Nat} {v : Value} {fs : List FileL} {vs : List Value} (h : OwnD w base v fs vs) : ∀ i, i < fs.length → ∀ k, (vs.getD i undef).ownBlock = some k → k < w.heap.size := fun i hi k hk => ((h.data i hi).lt k hk).2

theorem OwnD.drew {w : World} {base : Nat} {v : Value} {fs : List FileL} {vs : List Value} (h : OwnD w base v fs vs) : OwnD w.drew base v fs vs := ⟨h.len, h.row.drew, fun i hi => (h.data i hi).drew, h.apart⟩
theorem OwnD.alloc {w : World} {base : Nat} {v : Value} {fs : List FileL} {vs : List Value} (h : OwnD w base v fs vs) (o : Obj) : OwnD (w.alloc o) base v fs vs := h.below (below_alloc w o) (Nat.le_refl _)
/-- A cell below the base is written. -/
theorem OwnD.setBelow {w : World} {base : Nat} {v : Value} {fs : List FileL} {vs : List Value} (h : OwnD w base v fs vs) {p : Addr} (hp : p.block < base) (x : Value) : OwnD (w.setCell p x) base v fs vs :=
  ⟨h.len, ownsRow_setCell_below h.row hp x, fun i hi => ownsRow_setCell_below (h.data i hi) hp x, h.apart⟩
theorem OwnD.not {w : World} {base k : Nat} {v : Value} {fs : List FileL} {vs : List Value} (h : OwnD w base v fs vs) (hk : k < base) : some k ≠ v.ownBlock := fun e => by have := (h.row.lt k e.symm).1; omega
theorem file_oneCell (f : FileL) {v : Value} (h : v.oneCell' = true) : ∀ u ∈ [Value.string f.name, v, .int .i64 f.synced], u.oneCell' = true := by
  intro u hu
  simp at hu
  rcases hu with rfl | rfl | rfl
  · rfl
  · exact h
  · rfl
end Go.Proofs.Ytbfkmakfkbdafaa

namespace Go.Proofs.Ytbfkmakfkbdafaa
set_option maxRecDepth 100000
open Go.ChangeShapes Go.WideShapes Go.ChangeAt Go.RowKit
attribute [local go_sem ↓] exec_append

set_option maxHeartbeats 400000 in
theorem bytesOf_any (v : Value) (xs : List Int) (w : World) (h : Reads .u8 w v xs) (hl : xs.length ≤ 140737488355328) :
    Calls Try.prog 57 #[v] w fun e w' =>
      ∃ v', e = .returned v' ∧ w'.ownsRow w.heap.size 5 1 v' xs.length (xs.map (Value.int .u8)) ∧ Below w.heap.size w w' := by
  have HR : Hid (Reads .u8 w v xs) := h
  obtain ⟨a, cap, rfl, hc, hm, ha, _⟩ := h
  clear ha
  unfold maxLen at hm
  go_enter Try.func57, Try.ntmps57
  go_wp2_with fail
  go_loopw [3, 4] (fun v i wr => ∃ k : Nat, k ≤ xs.length ∧ i = .int .i64 k ∧ wr.ownsRow w.heap.size 5 1 v (xs.take k).length ((xs.take k).map (Value.int .u8)) ∧ Below w.heap.size w wr) (fun _ i _ => xs.length - (intOf i).toNat)
  case atStart => exact ⟨0, by omega, rfl, World.ownsRow_nil _ _ _ _, Below.refl _ _⟩
  case round =>
    obtain ⟨k, hk, rfl, hown, hbel⟩ := hrel
    have hs := hbel.size
    by_cases hlt : k < xs.length
    · obtain ⟨b, off, cap', e1, hc, hm, hb, hcell⟩ := (HR.out.below hbel (Nat.le_refl _)).plain (by omega)
      injection e1 with e1 _ e3
      subst e1 e3
      have hck := hcell k hlt
      have HTk : Hid (xs.take (k + 1) = xs.take k ++ [xs.getD k 0]) := take_snocI hlt
      have hlen : (xs.take k).length ≤ 140737488355327 := by simp; omega
      generalize xs.getD k 0 = x at *
      have OW : Hid (wr.ownsRow w.heap.size 5 1 u3 (xs.take k).length ((xs.take k).map (Value.int .u8))) := hown
      clear hown
      generalize xs.take k = f at *
      clear hcell
      go_wp2_with (at_builtin; refine wpList_append_reads rfl _ _ rfl w.heap.size _ f rfl (OW.out.alloc _) _ [x] rfl (reads_block (xs := [x]) (heap_alloc_new _ _) (by simp [maxLen])) (by simp; omega) (by simp; omega) ?_)
      intro v2 w2 hown2 hbel2 _
      have B2 : Hid (Below w.heap.size w w2) := (hbel.alloc hs _).trans hbel2
      have O2 : Hid (w2.ownsRow w.heap.size 5 1 v2 (xs.take (k + 1)).length ((xs.take (k + 1)).map (Value.int .u8))) := by show World.ownsRow _ _ _ _ _ _ _; rw [HTk.out]; simpa using hown2
      clear hown2 hbel2 hbel
      go_wp2
      go_roundw
      case rel => exact ⟨k + 1, by omega, by go_num, O2.out, B2.out⟩
      case measure => simp [intOf]; omega
    · have ek : xs.take k = xs := List.take_of_length_le (by omega)
      rw [ek] at hown
      have OW : Hid (wr.ownsRow w.heap.size 5 1 u3 xs.length (xs.map (Value.int .u8))) := hown
      clear hown ek
      go_wp2_with fail
      go_ret
      exact ⟨_, rfl, OW.out, hbel⟩
end Go.Proofs.Ytbfkmakfkbdafaa

namespace Go.Proofs.Ytbfkmakfkbdafaa
set_option maxRecDepth 100000
open Go.ChangeShapes Go.WideShapes Go.ChangeAt Go.RowKit
attribute [local go_sem ↓] exec_append

set_option maxHeartbeats 2000000 in
set_option maxRecDepth 100000 in
theorem diskCopy_any (v : Value) (fs : List FileL) (w : World) (h : DiskR w v fs) (hg : Good fs) (hl : fs.length * 48 ≤ 140737488351232) :
    Calls Try.prog 33 #[.agg #[v]] w fun e w' =>
      ∃ v' vs, e = .returned (.agg #[v']) ∧ OwnD w' w.heap.size v' fs vs ∧ Below w.heap.size w w' := by
  obtain ⟨i0, hi, hz0, hz1, hz2⟩ := info_parts Try.infoF
  have HG : Hid (Good fs) := hg
  obtain ⟨a, cap, rfl, hc, hm, ha, hel⟩ := h
  have HEL : Hid (0 < fs.length → ∃ b off, a = some ⟨b, off, none⟩ ∧ b < w.heap.size ∧ ∃ vs : Nat → Value, ∀ i, i < fs.length → FileC w b (off + i * 3) (vs i) (fs.getD i noF)) := hel
  clear ha hel hg
  unfold maxLen at hm
  go_enter Try.func33, Try.ntmps33
  go_wp2_with fail
  go_loopw [4, 5] (fun i b wr => ∃ (k : Nat) (u : Value) (vs : List Value), k ≤ fs.length ∧ i = .int .i64 k ∧ OwnD wr (w.heap.size + 3) u (fs.take k) vs ∧ wr.cell? ⟨w.heap.size + 2, 0, none⟩ = some u ∧ wr.frozen? ⟨w.heap.size + 2, 0, none⟩ = false ∧ w.heap.size + 3 ≤ wr.heap.size ∧
      Below (w.heap.size + 2) ((w.alloc (.cells #[.slice a fs.length cap] 40)).alloc (.cells #[.slice none 0 0] 40)) wr) (fun i _ _ => fs.length - (intOf i).toNat)
  case atStart => exact ⟨0, _, [], by omega, rfl, OwnD.nil _ _, cell_third _ _ _ _ _, frozen_third _ _ _ _ _, by simp, ((Below.refl _ _).alloc (by simp) _)⟩
  case round =>
    obtain ⟨k, u, vs, hk, rfl, hown, hcu, hfu, hsz, hbel⟩ := hrel
    have OW : Hid (OwnD wr (w.heap.size + 3) u (fs.take k) vs) := hown
    have HB : Hid (Below (w.heap.size + 2) ((w.alloc (.cells #[.slice a fs.length cap] 40)).alloc (.cells #[.slice none 0 0] 40)) wr) := hbel
    have hbox : wr.cell? ⟨w.heap.size, 0, none⟩ = some (.slice a fs.length cap) := (hbel.cell (p := ⟨w.heap.size, 0, none⟩) (by simp)).trans (by simp)
    clear hown hbel
    by_cases hlt : k < fs.length
    · obtain ⟨b, off, rfl, lt, dvs, hv⟩ := HEL.out (by omega)
      obtain ⟨c1, c2, c3, c4⟩ := ((hv k hlt).below (below_two HB.out) (Nat.le_refl _))
      have hgd := HG.out k hlt
      have HTk : Hid (fs.take (k + 1) = fs.take k ++ [fs.getD k noF]) := take_snocF hlt
      have hlk : (fs.take k).length = k := List.length_take_of_le (by omega)
      have HLK : Hid ((fs.take k).length = k) := hlk
      have hdl : (fs.getD k noF).data.length ≤ 140737488355328 := by omega
      have RD : Hid (Reads .u8 wr (dvs k) (fs.getD k noF).data) := c4
      clear hv HEL hgd c4 hlk
      generalize fs.getD k noF = f at *
      generalize dvs k = dv at *
      obtain ⟨da, dn, dc, rfl⟩ : ∃ a n c, dv = .slice a n c := by obtain ⟨a, c, h, _⟩ := RD.out; exact ⟨_, _, _, h⟩
      go_wp2_with fail
      refine (bytesOf_any _ f.data _ RD.out hdl).mono ?_
      rintro e w1 ⟨v1, rfl, hown1, hb1⟩
      have O1 : Hid (w1.ownsRow wr.heap.size 5 1 v1 f.data.length (f.data.map (Value.int .u8))) := hown1
      have hbb : b < wr.heap.size := by omega
      have k0 : w1.cell? ⟨w.heap.size, 0, none⟩ = some (.slice (some ⟨b, off, none⟩) fs.length cap) := (hb1.cell (p := ⟨w.heap.size, 0, none⟩) (show w.heap.size < wr.heap.size by omega)).trans hbox
      have k1 : w1.cell? ⟨w.heap.size + 2, 0, none⟩ = some u := (hb1.cell (p := ⟨w.heap.size + 2, 0, none⟩) (show w.heap.size + 2 < wr.heap.size by omega)).trans hcu
      have k2 : w1.frozen? ⟨w.heap.size + 2, 0, none⟩ = false := (hb1.frozen (p := ⟨w.heap.size + 2, 0, none⟩) (show w.heap.size + 2 < wr.heap.size by omega)).trans hfu
      have k3 : w1.cell? ⟨b, off + k * 3, none⟩ = some (.string f.name) := (hb1.cell (p := ⟨b, off + k * 3, none⟩) hbb).trans c1
      have k4 : w1.cell? ⟨b, off + k * 3 + 2, none⟩ = some (.int .i64 f.synced) := (hb1.cell (p := ⟨b, off + k * 3 + 2, none⟩) hbb).trans c3
      have HB1 : Hid (Below wr.heap.size wr w1) := hb1
      have OW1 : Hid (OwnD w1 (w.heap.size + 3) u (fs.take k) vs) := OW.out.below hb1 (Nat.le_refl _)
      have hs1 := hb1.size
      clear hown1 hb1 c1 c2 c3 hbox hcu hfu
      have q0 : (0 : Int) ≤ (k : Int) := by omega
      have q1 : (k : Int) < (fs.length : Int) := by omega
      obtain ⟨ua, un, uc, rfl⟩ : ∃ a n c, u = .slice a n c := by rcases OW1.out.shape with ⟨h, _⟩ | ⟨g, c, h, _⟩ <;> exact ⟨_, _, _, h⟩
      obtain ⟨ya, yn, yc, rfl⟩ : ∃ a n c, v1 = .slice a n c := by obtain ⟨a, c, h, _⟩ := reads_own O1.out; exact ⟨_, _, _, h⟩
      go_wp2_with fail
      have hW : w1.heap.size + 1 = (w1.alloc (.cells #[.string f.name, .slice ya yn yc, .int .i64 f.synced] 68)).drew.heap.size := by simp
      obtain ⟨gg, gc, w2, hrun, hown2, hgrow, _, _⟩ := run_append_lies (P := Try.prog) (w1.alloc (.cells #[.string f.name, .slice ya yn yc, .int .i64 f.synced] 68)).drew 38 38 (w.heap.size + 3) 68 i0 _ 3 48 Try.underlying38 hi hz0 hz1 hz2 rfl (by omega) (.slice ua un uc) _ _ ((OW1.out.row.alloc _).drew)
        ⟨w1.heap.size, 0, none⟩ 1 1 [.string f.name, .slice ya yn yc, .int .i64 f.synced] (by rfl) (World.news_of_block (cs := #[.string f.name, .slice ya yn yc, .int .i64 f.synced]) (t := 68) (fr := (0, 0)) (heap_alloc_new w1 _)) (file_oneCell f rfl)
        (by omega) (by unfold maxLen; rw [HLK.out]; omega) (by rw [HLK.out]; omega) (by simp; omega) _ rfl
      obtain ⟨a1, a2, a3⟩ := appOk_of hrun
      have HA2 := Hid.out (show Hid _ from a2)
      have k5 : ∀ X, (w1.alloc X).cell? ⟨w.heap.size + 1 + 1, 0, none⟩ = some (.slice ua un uc) := fun X => ((below_alloc w1 X).cell (p := ⟨w.heap.size + 2, 0, none⟩) (show w.heap.size + 2 < w1.heap.size by omega)).trans k1
      have z1 : w2.cell? ⟨w.heap.size + 1 + 1, 0, none⟩ = some (.slice ua un uc) := (hgrow.cell_far ⟨w.heap.size + 2, 0, none⟩ (show w.heap.size + 2 < _ by simp; omega) (OW1.out.not (show w.heap.size + 2 < w.heap.size + 3 by omega))).trans (k5 _)
      have z2 : w2.frozen? ⟨w.heap.size + 1 + 1, 0, none⟩ = false := (hgrow.frozen_far ⟨w.heap.size + 2, 0, none⟩ (show w.heap.size + 2 < _ by simp; omega) (OW1.out.not (show w.heap.size + 2 < w.heap.size + 3 by omega))).trans (((below_alloc w1 _).frozen (p := ⟨w.heap.size + 2, 0, none⟩) (show w.heap.size + 2 < w1.heap.size by omega)).trans k2)
      rw [HLK.out] at a2 hown2
      have O2 : Hid (OwnD w2 (w.heap.size + 3) (.slice (some ⟨gg, 0, none⟩) (k + 1) gc) (fs.take (k + 1)) (vs ++ [.slice ya yn yc])) := by
        show OwnD _ _ _ _ _
        rw [HTk.out]
        exact (OW1.out.alloc _).drew.snoc (by rw [HLK.out]; exact hown2) hgrow (O1.out.alloc _).drew (by omega) OW.out.lt
      have B2 : Hid (Below (w.heap.size + 2) ((w.alloc (.cells #[.slice (some ⟨b, off, none⟩) fs.length cap] 40)).alloc (.cells #[.slice none 0 0] 40)) w2) :=
        ((HB.out.trans (HB1.out.mono (by omega))).alloc (by omega) _).drew.grown hgrow (by simp; omega) (fun j hj => by have := (OW1.out.row.lt j hj).1; omega)
      have hs2 : w1.heap.size ≤ w2.heap.size := by have := hgrow.size; simp at this; omega
      clear hrun hown2 hgrow hW HA2
      go_region
      go_wp2
      go_roundw
      case rel => exact ⟨k + 1, _, _, by omega, by go_num, O2.out.setBelow (show w.heap.size + 2 < w.heap.size + 3 by omega) _, World.cell?_setCell_same _ _ _ z1, (World.frozen?_setCell _ _ _ _).trans z2, by rw [size_setCell]; omega, B2.out.setCell (Nat.le_refl _) _⟩
      case measure => simp [intOf]; omega
    · have ek : fs.take k = fs := List.take_of_length_le (by omega)
      have O2 : Hid (OwnD wr (w.heap.size + 3) u fs vs) := by have := OW.out; rwa [ek] at this
      have r1 : wr.cell? ⟨w.heap.size + 1, 0, none⟩ = some (.slice none 0 0) := (HB.out.cell (p := ⟨w.heap.size + 1, 0, none⟩) (Nat.lt_succ_self _)).trans (cell_second _ _ _ _)
      have r2 : wr.frozen? ⟨w.heap.size + 1, 0, none⟩ = false := (HB.out.frozen (p := ⟨w.heap.size + 1, 0, none⟩) (Nat.lt_succ_self _)).trans (frozen_second _ _ _ _)
      obtain ⟨ua, un, uc, rfl⟩ : ∃ a n c, u = .slice a n c := by rcases O2.out.shape with ⟨h, _⟩ | ⟨g, c, h, _⟩ <;> exact ⟨_, _, _, h⟩
      clear ek HEL
      go_wp2_with fail
      refine bodyPost_ret (v := .agg #[.slice ua un uc]) (by simp [results, Try.results33, go_sem, r1]) rfl ⟨_, vs, rfl, (O2.out.setBelow (show w.heap.size + 1 < w.heap.size + 3 by omega) _).lower (by omega), ?_⟩
      exact (below_two HB.out).setCell (show w.heap.size ≤ w.heap.size + 1 by omega) _
end Go.Proofs.Ytbfkmakfkbdafaa

namespace Go.Proofs.Ytbfkmakfkbdafaa
set_option maxRecDepth 100000
open Go.ChangeShapes Go.WideShapes Go.ChangeAt Go.RowKit

/-- Files whose row is the call's own, and whose data reads; the first k of them have data of their own, apart from one another. -/
structure PartD (w : World) (base : Nat) (v : Value) (fs : List FileL) (vs : List Value) (k : Nat) : Prop where
  len : vs.length = fs.length
  row : w.ownsRow base 68 3 v fs.length (rows fs vs)
  read : ∀ i, i < fs.length → Reads .u8 w (vs.getD i undef) (fs.getD i noF).data
  data : ∀ i, i < k → w.ownsRow base 5 1 (vs.getD i undef) (fs.getD i noF).data.length ((fs.getD i noF).data.map (Value.int .u8))
  apart : ∀ i j, i < j → j < k → (vs.getD j undef).ownBlock = none ∨ (vs.getD j undef).ownBlock ≠ (vs.getD i undef).ownBlock

theorem PartD.own {w : World} {base : Nat} {v : Value} {fs : List FileL} {vs : List Value} (h : PartD w base v fs vs fs.length) : OwnD w base v fs vs := ⟨h.len, h.row, h.data, h.apart⟩
theorem PartD.below {w w' : World} {base B k : Nat} {v : Value} {fs : List FileL} {vs : List Value} (h : PartD w base v fs vs k) (hb : Below B w w') (hB : w.heap.size ≤ B) : PartD w' base v fs vs k :=
  ⟨h.len, own_below h.row hb hB, fun i hi => (h.read i hi).below hb hB, fun i hi => own_below (h.data i hi) hb hB, h.apart⟩

theorem rows_set : ∀ {fs : List FileL} {vs : List Value} (k : Nat) (x : Value), vs.length = fs.length → k < fs.length → rows fs (vs.set k x) = (rows fs vs).set (k * 3 + 1) x
  | [], _, k, x, _, h => by simp at h
  | f :: r, [], k, x, h, _ => by simp at h
  | f :: r, v :: vs, 0, x, _, _ => by simp [rows]
  | f :: r, v :: vs, k + 1, x, h, hk => by
    have := rows_set (fs := r) (vs := vs) k x (by simpa using h) (by simpa using hk)
    have e1 : (k + 1) * 3 + 1 = k * 3 + 1 + 3 := by omega
    rw [e1]
    simp only [List.set_cons_succ, rows, this]
/-- Bytes that read, behind a store into a cell that held no byte. -/
theorem Reads.set {w : World} {v : Value} {xs : List Int} {p : Addr} {u x : Value} (h : Reads .u8 w v xs) (hp : w.cell? p = some u) (hu : ∀ n, u ≠ .int .u8 n) : Reads .u8 (w.setCell p x) v xs := by
  obtain ⟨a, cap, rfl, hc, hm, ha, hcell⟩ := h
  refine ⟨a, cap, rfl, hc, hm, ha, fun y hy i hi => ?_⟩
  have h1 := hcell y hy i hi
  rw [World.cell?_setCell_other _ _ _ _ (fun e => by rw [← e] at h1; rw [hp] at h1; injection h1 with h1; exact hu _ h1), h1]
theorem PartD.store {w : World} {base k g n cap : Nat} {fs : List FileL} {vs : List Value} {x : Value} (h : PartD w base (.slice (some ⟨g, 0, none⟩) n cap) fs vs k) (hk : k < fs.length) {B : Nat} (hB : base ≤ B)
    (hx : w.ownsRow B 5 1 x (fs.getD k noF).data.length ((fs.getD k noF).data.map (Value.int .u8))) (hnew : ∀ i, i < k → ∀ b, (vs.getD i undef).ownBlock = some b → b < B) : PartD (w.setCell ⟨g, k * 3 + 1, none⟩ x) base (.slice (some ⟨g, 0, none⟩) n cap) fs (vs.set k x) (k + 1) := by
  have hn : n = fs.length := by
    rcases h.row.2 with ⟨hv, _⟩ | ⟨g', cap', cur, hv, _⟩
    · cases hv
    · injection hv
  subst hn
  obtain ⟨_, r2, _⟩ := rows_at k h.len hk
  have c2 := h.row.cells rfl _ _ r2
  rw [addr_add] at c2
  have hread : ∀ {v : Value} {ys : List Int}, Reads .u8 w v ys → Reads .u8 (w.setCell ⟨g, k * 3 + 1, none⟩ x) v ys := fun hr => hr.set c2 (fun m => by
    obtain ⟨a, c, e, _⟩ := h.read k hk
    rw [e]; intro hh; cases hh)
  have hap : ∀ {b' n' : Nat} {v' : Value} {ys : List Value}, w.ownsRow b' 5 1 v' n' ys → (w.setCell ⟨g, k * 3 + 1, none⟩ x).ownsRow b' 5 1 v' n' ys := fun ho => own_other ho (own_apart ho h.row (by decide))
  have es : ∀ i, i < fs.length → i ≠ k → (vs.set k x).getD i undef = vs.getD i undef := fun i hi hne => by
    rw [List.getD_eq_getElem?_getD, List.getD_eq_getElem?_getD, List.getElem?_set_ne (fun e => hne e.symm)]
  have ek : (vs.set k x).getD k undef = x := by rw [List.getD_eq_getElem?_getD, List.getElem?_set_self (by rw [h.len]; exact hk)]; rfl
  refine ⟨by rw [List.length_set]; exact h.len, by rw [rows_set k x h.len hk]; exact own_setRow h.row, ?_, ?_, ?_⟩
  · intro i hi
    by_cases e : i = k
    · subst e; rw [ek]; exact hread (reads_own hx)
    · rw [es i hi e]; exact hread (h.read i hi)
  · intro i hi
    by_cases e : i = k
    · subst e; rw [ek]; exact own_lower (hap hx) hB
    · rw [es i (by omega) e]; exact hap (h.data i (by omega))
  · intro i j hij hj
    by_cases e : j = k
    · subst e
      rw [ek, es i (by omega) (by omega)]
      rcases hx.2 with ⟨hv, _⟩ | ⟨g', cap', cur, hv, hgB, _⟩
      · subst hv; exact .inl rfl
      · subst hv
        refine .inr fun e => ?_
        have := hnew i hij g' e.symm
        omega
    · rw [es j (by omega) e, es i (by omega) (by omega)]
      exact h.apart i j hij (by omega)

theorem rows_get : ∀ {fs : List FileL} {vs : List Value} {j : Nat} {u : Value}, vs.length = fs.length → (rows fs vs)[j]? = some u →
    ∃ i, i < fs.length ∧ ((j = i * 3 ∧ u = .string (fs.getD i noF).name) ∨ (j = i * 3 + 1 ∧ u = vs.getD i undef) ∨ (j = i * 3 + 2 ∧ u = .int .i64 (fs.getD i noF).synced))
  | [], _, j, u, _, h => by simp [rows] at h
  | f :: r, [], j, u, h, _ => by simp at h
  | f :: r, v :: vs, 0, u, _, h => ⟨0, by simp, .inl ⟨rfl, by simpa [rows] using h.symm⟩⟩
  | f :: r, v :: vs, 1, u, _, h => ⟨0, by simp, .inr (.inl ⟨rfl, by simpa [rows] using h.symm⟩)⟩
  | f :: r, v :: vs, 2, u, _, h => ⟨0, by simp, .inr (.inr ⟨rfl, by simpa [rows] using h.symm⟩)⟩
  | f :: r, v :: vs, j + 3, u, hl, h => by
    obtain ⟨i, hi, hh⟩ := rows_get (fs := r) (vs := vs) (j := j) (u := u) (by simpa using hl) (by simpa [rows] using h)
    refine ⟨i + 1, by simp; omega, ?_⟩
    rcases hh with ⟨e, eu⟩ | ⟨e, eu⟩ | ⟨e, eu⟩
    · exact .inl ⟨by omega, by simpa using eu⟩
    · exact .inr (.inl ⟨by omega, by simpa using eu⟩)
    · exact .inr (.inr ⟨by omega, by simpa using eu⟩)
theorem rows_one {fs : List FileL} {vs : List Value} (hl : vs.length = fs.length) (h : ∀ i, i < fs.length → (vs.getD i undef).oneCell' = true) : ∀ u ∈ rows fs vs, u.oneCell' = true := by
  intro u hu
  obtain ⟨j, hj⟩ := List.getElem?_of_mem hu
  obtain ⟨i, hi, hh⟩ := rows_get hl hj
  rcases hh with ⟨_, rfl⟩ | ⟨_, rfl⟩ | ⟨_, rfl⟩
  · rfl
  · exact h i hi
  · rfl

/-- 'append([]File(nil), x...)' where x reads as files. -/
theorem wpList_append_files {w : World} {ops : Array Oper} {rest : List Oper} {o : Oper} {a : Act} {Q : Exit → Act → World → Prop} (hgd : o.guard = none) (s x : Operand)
    (ho : o.op = .call { callee := .builtin .append, args := #[s, x], argTypes := #[38, 38] })
    (v2 : Value) (fs : List FileL) (hs : a.eval s = .slice none 0 0) (hx : a.eval x = v2) (hr : DiskR w v2 fs) (hlen : fs.length * 48 ≤ 140737488355328)
    (h : ∀ v' vs w', PartD w' w.heap.size v' fs vs 0 → Below w.heap.size w w' → wpList Try.prog ops Q rest (a.put o.dst v') w') :
    wpList Try.prog ops Q (o :: rest) a w := by
  obtain ⟨i0, hi, hz0, hz1, hz2⟩ := info_parts Try.infoF
  obtain ⟨ad, cap, rfl, hc, hm, ha, hel⟩ := hr
  cases ad with
  | none =>
    have hcap := ha rfl
    have : fs = [] := List.eq_nil_of_length_eq_zero (by omega)
    subst this
    subst hcap
    refine wpList_append_own_none hgd s x 38 ho w.heap.size 68 i0 3 Try.underlying38 hi (.slice none 0 0) 0 [] hs (World.ownsRow_nil _ _ _ _) hx ?_
    exact h _ [] w ⟨rfl, World.ownsRow_nil _ _ _ _, fun i hi => by simp at hi, fun i hi => by omega, fun i j _ hj => by omega⟩ (Below.refl _ _)
  | some p =>
    by_cases hn : 0 < fs.length
    · obtain ⟨b, off, e, lt, dv, hv⟩ := hel hn
      injection e with e
      subst e
      have hvl : ((List.range fs.length).map dv).length = fs.length := by simp
      have hvg : ∀ i, i < fs.length → ((List.range fs.length).map dv).getD i undef = dv i := fun i hi => by rw [List.getD_eq_getElem?_getD, List.getElem?_map, List.getElem?_range hi]; rfl
      have hone : ∀ i, i < fs.length → (((List.range fs.length).map dv).getD i undef).oneCell' = true := fun i hi => by
        rw [hvg i hi]
        obtain ⟨_, _, _, c, d, e, _⟩ := hv i hi
        rw [e]; rfl
      have hadd : ∀ t, (⟨b, off, none⟩ : Addr).add t = ⟨b, off + t, none⟩ := fun t => by unfold Addr.add; split <;> simp_all
      refine wpList_append_own w hgd s x 38 ho w.heap.size 68 i0 _ 3 48 Try.underlying38 hi hz0 hz1 hz2 rfl (by decide) (.slice none 0 0) 0 [] hs (World.ownsRow_nil _ _ _ _) ⟨b, off, none⟩ fs.length cap (rows fs ((List.range fs.length).map dv)) hx (rows_len hvl) ?_ (rows_one hvl hone) (by unfold maxLen; omega) (by omega) (Nat.le_refl _) ?_
      · intro j u hu
        obtain ⟨i, hi, hh⟩ := rows_get hvl hu
        obtain ⟨c1, c2, c3, _⟩ := hv i hi
        rw [hadd]
        rcases hh with ⟨rfl, rfl⟩ | ⟨rfl, rfl⟩ | ⟨rfl, rfl⟩
        · exact c1
        · rw [hvg i hi]; rw [Nat.add_assoc] at c2; exact c2
        · rw [Nat.add_assoc] at c3; exact c3
      · intro v' w' h2 h3 _
        have hb : Below w.heap.size w w' := (Below.refl _ _).grown h3 (Nat.le_refl _) (fun k hk => by simp [Value.ownBlock] at hk)
        refine h v' _ w' ⟨hvl, by simpa using h2, fun i hi => ?_, fun i hi => by omega, fun i j _ hj => by omega⟩ hb
        rw [hvg i hi]
        exact (hv i hi).2.2.2.below hb (Nat.le_refl _)
    · have : fs = [] := List.eq_nil_of_length_eq_zero (by omega)
      subst this
      refine wpList_append_own w hgd s x 38 ho w.heap.size 68 i0 _ 3 48 Try.underlying38 hi hz0 hz1 hz2 rfl (by decide) (.slice none 0 0) 0 [] hs (World.ownsRow_nil _ _ _ _) p 0 cap [] hx rfl (fun j u hu => by simp at hu) (fun u hu => by simp at hu) (by simp [maxLen]) (by simp) (Nat.le_refl _) ?_
      intro v' w' h2 h3 h4
      have hb : Below w.heap.size w w' := (Below.refl _ _).grown h3 (Nat.le_refl _) (fun k hk => by simp [Value.ownBlock] at hk)
      exact h v' [] w' ⟨rfl, h2, fun i hi => by simp at hi, fun i hi => by omega, fun i j _ hj => by omega⟩ hb

theorem PartD.setBelow {w : World} {base k : Nat} {v : Value} {fs : List FileL} {vs : List Value} (h : PartD w base v fs vs k) {p : Addr} (hp : p.block < base) {u x : Value} (hpc : w.cell? p = some u) (hu : ∀ n, u ≠ .int .u8 n) : PartD (w.setCell p x) base v fs vs k :=
  ⟨h.len, ownsRow_setCell_below h.row hp x, fun i hi => (h.read i hi).set hpc hu, fun i hi => ownsRow_setCell_below (h.data i hi) hp x, h.apart⟩
theorem PartD.shape {w : World} {base k : Nat} {v : Value} {fs : List FileL} {vs : List Value} (h : PartD w base v fs vs k) :
    ∃ a cap, v = .slice a fs.length cap ∧ cap ≤ maxLen ∧ (0 < fs.length → ∃ g, a = some ⟨g, 0, none⟩ ∧ base ≤ g ∧ g < w.heap.size ∧ (∀ j, w.frozen? ⟨g, j, none⟩ = false) ∧ ∀ i, i < fs.length → w.cell? ⟨g, i * 3 + 1, none⟩ = some (vs.getD i undef)) := by
  rcases h.row.2 with ⟨hv, h0⟩ | ⟨g, cap, cur, hv, hg, hgg, hc, hm, _⟩
  · exact ⟨none, 0, by rw [h0]; exact hv, by simp [maxLen], fun h => by omega⟩
  · refine ⟨_, cap, hv, hm, fun _ => ⟨g, rfl, hg, (Array.getElem?_eq_some_iff.1 hgg).1, fun j => by simp only [World.frozen?, hgg]; simp, fun i hi => ?_⟩⟩
    subst hv
    obtain ⟨_, r2, _⟩ := rows_at i h.len hi
    have c2 := h.row.cells rfl _ _ r2
    rwa [addr_add] at c2

set_option maxHeartbeats 2000000 in
set_option maxRecDepth 100000 in
theorem copyFiles_any (pb : Nat) (v : Value) (fs : List FileL) (w : World) (hp : w.cell? ⟨pb, 0, none⟩ = some v) (hpf : w.frozen? ⟨pb, 0, none⟩ = false) (h : DiskR w v fs) (hg : Good fs) (hl : fs.length ≤ 40) :
    Calls Try.prog 74 #[.pointer (some ⟨pb, 0, none⟩)] w fun e w' => ∃ v' vs, e = .returned (.tuple #[]) ∧ w'.cell? ⟨pb, 0, none⟩ = some v' ∧ w'.frozen? ⟨pb, 0, none⟩ = false ∧ OwnD w' w.heap.size v' fs vs ∧ Below pb w w' := by
  have lp : pb < w.heap.size := World.block_lt_of_cell? w _ hp
  have HD : Hid (DiskR w v fs) := h
  have HG : Hid (Good fs) := hg
  obtain ⟨a, cap, rfl, _, _, _, _⟩ := h
  clear hg
  go_enter Try.func74, Try.ntmps74
  go_wp2_with (at_builtin; refine wpList_append_files rfl _ _ rfl _ fs rfl rfl HD.out (by omega) ?_)
  intro v1 vs1 w1 hpart hb1
  obtain ⟨a1, c1, rfl, hm1, hsh⟩ := hpart.shape
  have k0 : w1.cell? ⟨pb, 0, none⟩ = some (.slice a fs.length cap) := (hb1.cell (p := ⟨pb, 0, none⟩) lp).trans hp
  have k1 : w1.frozen? ⟨pb, 0, none⟩ = false := (hb1.frozen (p := ⟨pb, 0, none⟩) lp).trans hpf
  have P1 : Hid (PartD (w1.setCell ⟨pb, 0, none⟩ (.slice a1 fs.length c1)) w.heap.size (.slice a1 fs.length c1) fs vs1 0) := hpart.setBelow (show pb < w.heap.size from lp) k0 (fun n hh => by cases hh)
  have B1 : Hid (Below pb w (w1.setCell ⟨pb, 0, none⟩ (.slice a1 fs.length c1))) := (hb1.mono (Nat.le_of_lt lp)).setCell (p := ⟨pb, 0, none⟩) (show pb ≤ pb from Nat.le_refl _) _
  have k2 : (w1.setCell ⟨pb, 0, none⟩ (.slice a1 fs.length c1)).cell? ⟨pb, 0, none⟩ = some (.slice a1 fs.length c1) := World.cell?_setCell_same _ _ _ k0
  have hs1 : w.heap.size ≤ (w1.setCell ⟨pb, 0, none⟩ (.slice a1 fs.length c1)).heap.size := by rw [size_setCell]; exact hb1.size
  have k3 : (w1.setCell ⟨pb, 0, none⟩ (.slice a1 fs.length c1)).frozen? ⟨pb, 0, none⟩ = false := (World.frozen?_setCell _ _ _ _).trans k1
  unfold maxLen at hm1
  clear hpart hb1 hsh
  go_wp2_with fail
  generalize w1.setCell ⟨pb, 0, none⟩ (.slice a1 fs.length c1) = w2 at *
  go_loopw [19] (fun i wr => ∃ (k : Nat) (vs : List Value), k ≤ fs.length ∧ i = .int .i64 k ∧ PartD wr w.heap.size (.slice a1 fs.length c1) fs vs k ∧ wr.cell? ⟨pb, 0, none⟩ = some (.slice a1 fs.length c1) ∧ wr.frozen? ⟨pb, 0, none⟩ = false ∧ w.heap.size ≤ wr.heap.size ∧ Below pb w wr) (fun i _ => fs.length - (intOf i).toNat)
  case atStart => exact ⟨0, vs1, by omega, rfl, P1.out, k2, k3, hs1, B1.out⟩
  case round =>
    obtain ⟨k, vs, hk, rfl, hpart, hcp, hfp, hsz, hbel⟩ := hrel
    have HP : Hid (PartD wr w.heap.size (.slice a1 fs.length c1) fs vs k) := hpart
    have HB : Hid (Below pb w wr) := hbel
    by_cases hlt : k < fs.length
    · obtain ⟨a2, c2, e2, _, hsh⟩ := hpart.shape
      injection e2 with e2 _ e3
      subst e2 e3
      obtain ⟨g, rfl, hg1, hg2, hfz, hcells⟩ := hsh (by omega)
      have hck := hcells k hlt
      have hfk := hfz (k * 3 + 1)
      have RD : Hid (Reads .u8 wr (vs.getD k undef) (fs.getD k noF).data) := hpart.read k hlt
      have hdl : (fs.getD k noF).data.length ≤ 140737488355328 := by have := (HG.out k hlt).2.2.2.2; omega
      have HST : Hid (∀ w6 v6, Below wr.heap.size wr w6 → w6.ownsRow wr.heap.size 5 1 v6 (fs.getD k noF).data.length ((fs.getD k noF).data.map (Value.int .u8)) → PartD (w6.setCell ⟨g, k * 3 + 1, none⟩ v6) w.heap.size (.slice (some ⟨g, 0, none⟩) fs.length c1) fs (vs.set k v6) (k + 1)) := fun w6 v6 hb6 ho6 =>
        (HP.out.below hb6 (Nat.le_refl _)).store hlt hsz ho6 (fun i hi b hbk => ((HP.out.data i hi).lt b hbk).2)
      clear hpart hbel hcells hfz hsh
      generalize vs.getD k undef = dv at *
      generalize fs.getD k noF = f at *
      obtain ⟨da, dn, dc, rfl⟩ : ∃ a n c, dv = .slice a n c := by obtain ⟨a, c, h, _⟩ := RD.out; exact ⟨_, _, _, h⟩
      have q0 : (0 : Int) ≤ (k : Int) := by omega
      have q1 : (k : Int) < (fs.length : Int) := by omega
      have lpr : pb < wr.heap.size := by omega
      go_wp2_with fail
      go_region_with (first
        | (go_at_call 72; refine (clone_any _ f.data _ ?_ hdl).mono ?_; exact RD.out; rintro e w6 ⟨v6, rfl, hown6, hbel6⟩; have hb6 : Below wr.heap.size wr w6 := ⟨hbel6.os, hbel6.tape, hbel6.output, hbel6.size, hbel6.block⟩; have ho6 : w6.ownsRow wr.heap.size 5 1 v6 f.data.length (f.data.map (Value.int .u8)) := hown6; have j0 := (hb6.cell (p := ⟨pb, 0, none⟩) lpr).trans hcp; have j1 := (hb6.cell (p := ⟨g, k * 3 + 1, none⟩) hg2).trans hck; have j2 := (hb6.frozen (p := ⟨g, k * 3 + 1, none⟩) hg2).trans hfk; have j3 := (hb6.frozen (p := ⟨pb, 0, none⟩) lpr).trans hfp; clear hown6 hbel6; obtain ⟨xa, xn, xc, rfl⟩ : ∃ a n c, v6 = .slice a n c := by obtain ⟨a, c, h, _⟩ := reads_own ho6; exact ⟨_, _, _, h⟩))
      all_goals
        have P7 := HST.out _ _ hb6 ho6
        have hpg : pb ≠ g := by omega
        go_wp2_with fail
        go_roundw
        case rel => exact ⟨k + 1, _, by omega, by go_num, P7, by rw [World.cell?_setCell_other _ _ _ _ (fun e => hpg (congrArg Addr.block e).symm)]; exact j0, (World.frozen?_setCell _ _ _ _).trans j3, by rw [size_setCell]; have := hb6.size; omega, (HB.out.trans (hb6.mono (by omega))).setCell (show pb ≤ g by omega) _⟩
        case measure => simp [intOf]; omega
    · have ek : k = fs.length := by omega
      subst ek
      go_wp2_with fail
      go_end0
      exact ⟨_, vs, rfl, hcp, hfp, HP.out.own, HB.out⟩
end Go.Proofs.Ytbfkmakfkbdafaa

namespace Go.Proofs.Ytbfkmakfkbdafaa
set_option maxRecDepth 100000
open Go.ChangeShapes Go.WideShapes Go.ChangeAt Go.RowKit

/-- P3.1 ahead of all else. -/
def chF (fs : List FileL) (g : List FileL × Int) : List FileL × Int := if mayB fs = true then g else ([], 9)

/-- What a change does with a disk at work, in the block p: it answers an error, or leaves the files g. -/
def Change (fs : List FileL) (g : List FileL × Int) (k : Nat) (caps : List Value) (w : World) : Prop :=
  ∀ (p B : Nat) (w3 : World) (v3 : Value) (vs : List Value), w.heap.size ≤ p → p < B → B ≤ w3.heap.size → w3.cell? ⟨p, 0, none⟩ = some v3 → w3.frozen? ⟨p, 0, none⟩ = false → OwnD w3 B v3 fs vs → Below w.heap.size w w3 → mayB fs = true →
    Calls Try.prog k (.pointer (some ⟨p, 0, none⟩) :: caps).toArray w3 fun e w4 => ∃ v4, e = .returned (.int .i64 g.2) ∧ w4.cell? ⟨p, 0, none⟩ = some v4 ∧ (g.2 = 0 → DiskR w4 v4 g.1) ∧ Below p w3 w4

theorem diskR_nil (w : World) : DiskR w (.slice none 0 0) [] := ⟨none, 0, rfl, by simp, by simp [maxLen], fun _ => rfl, fun hn => by simp at hn⟩
/-- A disk behind a store into a cell that held a slice. -/
theorem DiskR.setSlice {w : World} {v : Value} {fs : List FileL} {p : Addr} {a : Option Addr} {n c : Nat} {x : Value} (h : DiskR w v fs) (hp : w.cell? p = some (.slice a n c)) (hne : 0 < fs.length → ∀ b off cap, v = .slice (some ⟨b, off, none⟩) fs.length cap → p.block ≠ b) : DiskR (w.setCell p x) v fs := by
  obtain ⟨a', cap, rfl, hc, hm, ha, hel⟩ := h
  refine ⟨a', cap, rfl, hc, hm, ha, fun hn => ?_⟩
  obtain ⟨b, off, rfl, lt, vs, hv⟩ := hel hn
  have hb := hne hn b off cap rfl
  refine ⟨b, off, rfl, by rw [size_setCell]; exact lt, vs, fun i hi => ?_⟩
  obtain ⟨c1, c2, c3, c4⟩ := hv i hi
  have far : ∀ o u, w.cell? ⟨b, o, none⟩ = some u → (w.setCell p x).cell? ⟨b, o, none⟩ = some u := fun o u hu => by
    rw [World.cell?_setCell_other _ _ _ _ (fun e => hb (congrArg Addr.block e))]; exact hu
  exact ⟨far _ _ c1, far _ _ c2, far _ _ c3, c4.set hp (fun m hh => by cases hh)⟩

set_option maxHeartbeats 1000000 in
set_option maxRecDepth 100000 in
theorem changed_one (v : Value) (fs : List FileL) (g : List FileL × Int) (k : Nat) (c1 : Value) (w : World) (h : DiskR w v fs) (hg : Good fs) (hge : g.2 ≠ 0 → g.1 = []) (hent : ∀ args w, (callFunc k args).run Try.prog w = .ok (.enter k args) w) (hch : Change fs g k [c1] w) :
    Calls Try.prog 58 #[.agg #[v], .func (.func k) #[] #[c1]] w fun e w' => ∃ v', e = .returned (.tuple #[.agg #[v'], .int .i64 (chF fs g).2]) ∧ DiskR w' v' (chF fs g).1 ∧ Below w.heap.size w w' := by
  have HG : Hid (Good fs) := hg
  have HD : Hid (DiskR w v fs) := h
  have HC : Hid (Change fs g k [c1] w) := hch
  have HGE : Hid (g.2 ≠ 0 → g.1 = []) := hge
  obtain ⟨a, cap, rfl, hc, hm, _, _⟩ := h
  clear hg hch hge
  unfold maxLen at hm
  go_enter Try.func58, Try.ntmps58
  go_wp2_with fail
  refine (mayBe_any (w.heap.size + 2) (.slice a fs.length cap) fs _ ?_ ?_ HG.out).mono ?_
  · exact cell_third _ _ _ _ _
  · exact ((HD.out.below (below_alloc _ _) (Nat.le_refl _)).below (below_alloc _ _) (Nat.le_refl _)).below (below_alloc _ _) (Nat.le_refl _)
  rintro e w1 ⟨rfl, hb1⟩
  have hb1' : Below (w.heap.size + 3) (((w.alloc (.cells #[.slice a fs.length cap] 40)).alloc (.cells #[.slice none 0 0] 40)).alloc (.cells #[.slice a fs.length cap] 110)) w1 := by simpa using hb1
  have r1 : w1.cell? ⟨w.heap.size + 2, 0, none⟩ = some (.slice a fs.length cap) := (hb1'.cell (p := ⟨w.heap.size + 2, 0, none⟩) (Nat.lt_succ_self _)).trans (cell_third _ _ _ _ _)
  have r2 : w1.frozen? ⟨w.heap.size + 2, 0, none⟩ = false := (hb1'.frozen (p := ⟨w.heap.size + 2, 0, none⟩) (Nat.lt_succ_self _)).trans (frozen_third _ _ _ _ _)
  have B0 : Hid (Below (w.heap.size + 2) ((w.alloc (.cells #[.slice a fs.length cap] 40)).alloc (.cells #[.slice none 0 0] 40)) w1) := ((Below.refl _ _).alloc (by simp) _).trans (hb1'.mono (by omega))
  have hs1 : w.heap.size + 3 ≤ w1.heap.size := by have := hb1'.size; simp at this; omega
  have B1 : Hid (Below w.heap.size w w1) := below_two B0.out
  have D1 : Hid (DiskR w1 (.slice a fs.length cap) fs) := HD.out.below B1.out (Nat.le_refl _)
  clear hb1 hb1'
  cases hmay : mayB fs with
  | false =>
    have HF : Hid (chF fs g = ([], 9)) := by simp [chF, Hid, hmay]
    have t1 : w1.cell? ⟨w.heap.size + 1, 0, none⟩ = some (.slice none 0 0) := (B0.out.cell (p := ⟨w.heap.size + 1, 0, none⟩) (Nat.lt_succ_self _)).trans (cell_second _ _ _ _)
    have t2 : w1.frozen? ⟨w.heap.size + 1, 0, none⟩ = false := (B0.out.frozen (p := ⟨w.heap.size + 1, 0, none⟩) (Nat.lt_succ_self _)).trans (frozen_second _ _ _ _)
    clear hmay
    go_wp2_with fail
    refine bodyPost_ret (v := .tuple #[.agg #[.slice none 0 0], .int .i64 9]) (by simp [results, Try.results58, go_sem, t1]) rfl ⟨.slice none 0 0, by rw [HF.out], by rw [HF.out]; exact diskR_nil _, B1.out.setCell (show w.heap.size ≤ w.heap.size + 1 by omega) _⟩
  | true =>
    have HMAY : Hid (mayB fs = true) := hmay
    have HF : Hid (chF fs g = g) := by simp [chF, Hid, hmay]
    clear hmay
    have h40 := (may_iff.1 HMAY.out).1
    go_wp2_with fail
    refine (copyFiles_any (w.heap.size + 2) (.slice a fs.length cap) fs _ r1 r2 D1.out HG.out h40).mono ?_
    rintro e w2 ⟨v2, vs2, rfl, hc2, hf2, ho2, hb2⟩
    have B2 : Hid (Below (w.heap.size + 2) ((w.alloc (.cells #[.slice a fs.length cap] 40)).alloc (.cells #[.slice none 0 0] 40)) w2) := B0.out.trans hb2
    have hs2 := hb2.size
    have O2 : Hid (OwnD w2 w1.heap.size v2 fs vs2) := ho2
    clear hb2 ho2
    go_wp2_with fail
    refine (HC.out (w.heap.size + 2) w1.heap.size _ v2 vs2 (by omega) (by omega) hs2 hc2 hf2 O2.out (below_two B2.out) HMAY.out).mono ?_
    rintro e w4 ⟨v4, rfl, hc4, hd4, hb4⟩
    have B4 : Hid (Below (w.heap.size + 2) ((w.alloc (.cells #[.slice a fs.length cap] 40)).alloc (.cells #[.slice none 0 0] 40)) w4) := B2.out.trans hb4
    have t1 : w4.cell? ⟨w.heap.size + 1, 0, none⟩ = some (.slice none 0 0) := (B4.out.cell (p := ⟨w.heap.size + 1, 0, none⟩) (Nat.lt_succ_self _)).trans (cell_second _ _ _ _)
    have t2 : w4.frozen? ⟨w.heap.size + 1, 0, none⟩ = false := (B4.out.frozen (p := ⟨w.heap.size + 1, 0, none⟩) (Nat.lt_succ_self _)).trans (frozen_second _ _ _ _)
    clear hb4
    by_cases he : g.2 = 0
    · have HD4 : Hid (DiskR w4 v4 g.1) := hd4 he
      have HE : Hid (g.2 = 0) := he
      have he' : (g.2 != 0) = false := by simp [he]
      clear hd4 he
      obtain ⟨a4, c4, rfl, _, _, _, hel4⟩ := HD4.out
      have hblk : w4.heap[w.heap.size + 1]? = some (.cells #[.slice none 0 0] 40 (0, 0)) := by
        rw [B4.out.block (w.heap.size + 1) (Nat.lt_succ_self _)]
        have := heap_alloc_new (w.alloc (.cells #[.slice a fs.length cap] 40)) (.cells #[.slice none 0 0] 40)
        simpa using this
      have D5 : Hid (DiskR (w4.setCell ⟨w.heap.size + 1, 0, none⟩ (.slice a4 g.1.length c4)) (.slice a4 g.1.length c4) g.1) := by
        refine HD4.out.setSlice t1 (fun hn b off cap' e hb => ?_)
        injection e with e1 _ _
        subst e1
        have hb' : w.heap.size + 1 = b := hb
        subst hb'
        obtain ⟨b', off', e', _, vs', hv'⟩ := hel4 hn
        injection e' with e'
        injection e' with e1 e2
        subst e1 e2
        have c2 := (hv' 0 hn).2.1
        rw [cell_of_row w4 _ _ _ _ _ hblk] at c2
        simp at c2
      have HR : Hid (g = (g.1, 0)) := Prod.ext rfl HE.out
      clear hel4 hblk
      generalize g.2 = q at *
      go_wp2_with fail
      refine bodyPost_ret (v := .tuple #[.agg #[.slice a4 g.1.length c4], .int .i64 0]) (by simp [results, Try.results58, go_sem, t1]) rfl ⟨_, by rw [HF.out, HR.out], by rw [HF.out]; exact D5.out, (below_two B4.out).setCell (show w.heap.size ≤ w.heap.size + 1 by omega) _⟩
    · have HR : Hid (g = ([], g.2)) := Prod.ext (HGE.out he) rfl
      have he' : (g.2 != 0) = true := by simp [he]
      clear hd4 he
      generalize g.2 = q at *
      go_wp2_with fail
      refine bodyPost_ret (v := .tuple #[.agg #[.slice none 0 0], .int .i64 q]) (by simp [results, Try.results58, go_sem, t1]) rfl ⟨.slice none 0 0, by rw [HF.out, HR.out], by rw [HF.out, HR.out]; exact diskR_nil _, (below_two B4.out).setCell (show w.heap.size ≤ w.heap.size + 1 by omega) _⟩
set_option maxHeartbeats 1000000 in
set_option maxRecDepth 100000 in
theorem changed_two (v : Value) (fs : List FileL) (g : List FileL × Int) (k : Nat) (c1 c2 : Value) (w : World) (h : DiskR w v fs) (hg : Good fs) (hge : g.2 ≠ 0 → g.1 = []) (hent : ∀ args w, (callFunc k args).run Try.prog w = .ok (.enter k args) w) (hch : Change fs g k [c1, c2] w) :
    Calls Try.prog 58 #[.agg #[v], .func (.func k) #[] #[c1, c2]] w fun e w' => ∃ v', e = .returned (.tuple #[.agg #[v'], .int .i64 (chF fs g).2]) ∧ DiskR w' v' (chF fs g).1 ∧ Below w.heap.size w w' := by
  have HG : Hid (Good fs) := hg
  have HD : Hid (DiskR w v fs) := h
  have HC : Hid (Change fs g k [c1, c2] w) := hch
  have HGE : Hid (g.2 ≠ 0 → g.1 = []) := hge
  obtain ⟨a, cap, rfl, hc, hm, _, _⟩ := h
  clear hg hch hge
  unfold maxLen at hm
  go_enter Try.func58, Try.ntmps58
  go_wp2_with fail
  refine (mayBe_any (w.heap.size + 2) (.slice a fs.length cap) fs _ ?_ ?_ HG.out).mono ?_
  · exact cell_third _ _ _ _ _
  · exact ((HD.out.below (below_alloc _ _) (Nat.le_refl _)).below (below_alloc _ _) (Nat.le_refl _)).below (below_alloc _ _) (Nat.le_refl _)
  rintro e w1 ⟨rfl, hb1⟩
  have hb1' : Below (w.heap.size + 3) (((w.alloc (.cells #[.slice a fs.length cap] 40)).alloc (.cells #[.slice none 0 0] 40)).alloc (.cells #[.slice a fs.length cap] 110)) w1 := by simpa using hb1
  have r1 : w1.cell? ⟨w.heap.size + 2, 0, none⟩ = some (.slice a fs.length cap) := (hb1'.cell (p := ⟨w.heap.size + 2, 0, none⟩) (Nat.lt_succ_self _)).trans (cell_third _ _ _ _ _)
  have r2 : w1.frozen? ⟨w.heap.size + 2, 0, none⟩ = false := (hb1'.frozen (p := ⟨w.heap.size + 2, 0, none⟩) (Nat.lt_succ_self _)).trans (frozen_third _ _ _ _ _)
  have B0 : Hid (Below (w.heap.size + 2) ((w.alloc (.cells #[.slice a fs.length cap] 40)).alloc (.cells #[.slice none 0 0] 40)) w1) := ((Below.refl _ _).alloc (by simp) _).trans (hb1'.mono (by omega))
  have hs1 : w.heap.size + 3 ≤ w1.heap.size := by have := hb1'.size; simp at this; omega
  have B1 : Hid (Below w.heap.size w w1) := below_two B0.out
  have D1 : Hid (DiskR w1 (.slice a fs.length cap) fs) := HD.out.below B1.out (Nat.le_refl _)
  clear hb1 hb1'
  cases hmay : mayB fs with
  | false =>
    have HF : Hid (chF fs g = ([], 9)) := by simp [chF, Hid, hmay]
    have t1 : w1.cell? ⟨w.heap.size + 1, 0, none⟩ = some (.slice none 0 0) := (B0.out.cell (p := ⟨w.heap.size + 1, 0, none⟩) (Nat.lt_succ_self _)).trans (cell_second _ _ _ _)
    have t2 : w1.frozen? ⟨w.heap.size + 1, 0, none⟩ = false := (B0.out.frozen (p := ⟨w.heap.size + 1, 0, none⟩) (Nat.lt_succ_self _)).trans (frozen_second _ _ _ _)
    clear hmay
    go_wp2_with fail
    refine bodyPost_ret (v := .tuple #[.agg #[.slice none 0 0], .int .i64 9]) (by simp [results, Try.results58, go_sem, t1]) rfl ⟨.slice none 0 0, by rw [HF.out], by rw [HF.out]; exact diskR_nil _, B1.out.setCell (show w.heap.size ≤ w.heap.size + 1 by omega) _⟩
  | true =>
    have HMAY : Hid (mayB fs = true) := hmay
    have HF : Hid (chF fs g = g) := by simp [chF, Hid, hmay]
    clear hmay
    have h40 := (may_iff.1 HMAY.out).1
    go_wp2_with fail
    refine (copyFiles_any (w.heap.size + 2) (.slice a fs.length cap) fs _ r1 r2 D1.out HG.out h40).mono ?_
    rintro e w2 ⟨v2, vs2, rfl, hc2, hf2, ho2, hb2⟩
    have B2 : Hid (Below (w.heap.size + 2) ((w.alloc (.cells #[.slice a fs.length cap] 40)).alloc (.cells #[.slice none 0 0] 40)) w2) := B0.out.trans hb2
    have hs2 := hb2.size
    have O2 : Hid (OwnD w2 w1.heap.size v2 fs vs2) := ho2
    clear hb2 ho2
    go_wp2_with fail
    refine (HC.out (w.heap.size + 2) w1.heap.size _ v2 vs2 (by omega) (by omega) hs2 hc2 hf2 O2.out (below_two B2.out) HMAY.out).mono ?_
    rintro e w4 ⟨v4, rfl, hc4, hd4, hb4⟩
    have B4 : Hid (Below (w.heap.size + 2) ((w.alloc (.cells #[.slice a fs.length cap] 40)).alloc (.cells #[.slice none 0 0] 40)) w4) := B2.out.trans hb4
    have t1 : w4.cell? ⟨w.heap.size + 1, 0, none⟩ = some (.slice none 0 0) := (B4.out.cell (p := ⟨w.heap.size + 1, 0, none⟩) (Nat.lt_succ_self _)).trans (cell_second _ _ _ _)
    have t2 : w4.frozen? ⟨w.heap.size + 1, 0, none⟩ = false := (B4.out.frozen (p := ⟨w.heap.size + 1, 0, none⟩) (Nat.lt_succ_self _)).trans (frozen_second _ _ _ _)
    clear hb4
    by_cases he : g.2 = 0
    · have HD4 : Hid (DiskR w4 v4 g.1) := hd4 he
      have HE : Hid (g.2 = 0) := he
      have he' : (g.2 != 0) = false := by simp [he]
      clear hd4 he
      obtain ⟨a4, c4, rfl, _, _, _, hel4⟩ := HD4.out
      have hblk : w4.heap[w.heap.size + 1]? = some (.cells #[.slice none 0 0] 40 (0, 0)) := by
        rw [B4.out.block (w.heap.size + 1) (Nat.lt_succ_self _)]
        have := heap_alloc_new (w.alloc (.cells #[.slice a fs.length cap] 40)) (.cells #[.slice none 0 0] 40)
        simpa using this
      have D5 : Hid (DiskR (w4.setCell ⟨w.heap.size + 1, 0, none⟩ (.slice a4 g.1.length c4)) (.slice a4 g.1.length c4) g.1) := by
        refine HD4.out.setSlice t1 (fun hn b off cap' e hb => ?_)
        injection e with e1 _ _
        subst e1
        have hb' : w.heap.size + 1 = b := hb
        subst hb'
        obtain ⟨b', off', e', _, vs', hv'⟩ := hel4 hn
        injection e' with e'
        injection e' with e1 e2
        subst e1 e2
        have y2 := (hv' 0 hn).2.1
        rw [cell_of_row w4 _ _ _ _ _ hblk] at y2
        simp at y2
      have HR : Hid (g = (g.1, 0)) := Prod.ext rfl HE.out
      clear hel4 hblk
      generalize g.2 = q at *
      go_wp2_with fail
      refine bodyPost_ret (v := .tuple #[.agg #[.slice a4 g.1.length c4], .int .i64 0]) (by simp [results, Try.results58, go_sem, t1]) rfl ⟨_, by rw [HF.out, HR.out], by rw [HF.out]; exact D5.out, (below_two B4.out).setCell (show w.heap.size ≤ w.heap.size + 1 by omega) _⟩
    · have HR : Hid (g = ([], g.2)) := Prod.ext (HGE.out he) rfl
      have he' : (g.2 != 0) = true := by simp [he]
      clear hd4 he
      generalize g.2 = q at *
      go_wp2_with fail
      refine bodyPost_ret (v := .tuple #[.agg #[.slice none 0 0], .int .i64 q]) (by simp [results, Try.results58, go_sem, t1]) rfl ⟨.slice none 0 0, by rw [HF.out, HR.out], by rw [HF.out, HR.out]; exact diskR_nil _, (below_two B4.out).setCell (show w.heap.size ≤ w.heap.size + 1 by omega) _⟩
end Go.Proofs.Ytbfkmakfkbdafaa

namespace Go.Proofs.Ytbfkmakfkbdafaa
set_option maxRecDepth 100000
open Go.ChangeShapes Go.WideShapes Go.ChangeAt Go.RowKit

theorem getD_set_eq {fs : List FileL} {k : Nat} {f : FileL} (h : k < fs.length) : (fs.set k f).getD k noF = f := by
  rw [List.getD_eq_getElem?_getD, List.getElem?_set_self h]; rfl
theorem getD_set_ne {fs : List FileL} {k i : Nat} {f : FileL} (h : i ≠ k) : (fs.set k f).getD i noF = fs.getD i noF := by
  rw [List.getD_eq_getElem?_getD, List.getD_eq_getElem?_getD, List.getElem?_set_ne (fun e => h e.symm)]

theorem addr_ne {g o o' : Nat} (h : o ≠ o') : (⟨g, o, none⟩ : Addr) ≠ ⟨g, o', none⟩ := fun e => h (congrArg Addr.off e)

theorem fileC_other {w : World} {g i k r : Nat} {v x u : Value} {f : FileL} (h : FileC w g (i * 3) v f) (hp : w.cell? ⟨g, k * 3 + r, none⟩ = some u) (hu : ∀ n, u ≠ .int .u8 n) (hr : r < 3) (hne : i ≠ k) : FileC (w.setCell ⟨g, k * 3 + r, none⟩ x) g (i * 3) v f := by
  obtain ⟨c1, c2, c3, c4⟩ := h
  refine ⟨?_, ?_, ?_, c4.set hp hu⟩
  · rw [World.cell?_setCell_other _ _ _ _ (addr_ne (by omega))]; exact c1
  · rw [World.cell?_setCell_other _ _ _ _ (addr_ne (by omega))]; exact c2
  · rw [World.cell?_setCell_other _ _ _ _ (addr_ne (by omega))]; exact c3
theorem fileC_synced {w : World} {g o : Nat} {v : Value} {f : FileL} {s : Int} (h : FileC w g o v f) : FileC (w.setCell ⟨g, o + 2, none⟩ (.int .i64 s)) g o v { f with synced := s } := by
  obtain ⟨c1, c2, c3, c4⟩ := h
  refine ⟨?_, ?_, ?_, c4.set c3 (fun n hh => by cases hh)⟩
  · rw [World.cell?_setCell_other _ _ _ _ (addr_ne (by omega))]; exact c1
  · rw [World.cell?_setCell_other _ _ _ _ (addr_ne (by omega))]; exact c2
  · exact World.cell?_setCell_same _ _ _ c3
theorem fileC_name {w : World} {g o : Nat} {v : Value} {f : FileL} {n : ByteArray} (h : FileC w g o v f) : FileC (w.setCell ⟨g, o, none⟩ (.string n)) g o v { f with name := n } := by
  obtain ⟨c1, c2, c3, c4⟩ := h
  refine ⟨?_, ?_, ?_, c4.set c1 (fun n hh => by cases hh)⟩
  · exact World.cell?_setCell_same _ _ _ c1
  · rw [World.cell?_setCell_other _ _ _ _ (addr_ne (by omega))]; exact c2
  · rw [World.cell?_setCell_other _ _ _ _ (addr_ne (by omega))]; exact c3
theorem fileC_data {w : World} {g o : Nat} {v v' : Value} {f : FileL} {l : List Int} (h : FileC w g o v f) (hr : Reads .u8 w v' l) : FileC (w.setCell ⟨g, o + 1, none⟩ v') g o v' { f with data := l } := by
  obtain ⟨c1, c2, c3, c4⟩ := h
  refine ⟨?_, ?_, ?_, hr.set c2 (fun n hh => ?_)⟩
  · rw [World.cell?_setCell_other _ _ _ _ (addr_ne (by omega))]; exact c1
  · exact World.cell?_setCell_same _ _ _ c2
  · rw [World.cell?_setCell_other _ _ _ _ (addr_ne (by omega))]; exact c3
  · obtain ⟨a, c, e, _⟩ := c4
    rw [e] at hh; cases hh

/-- Files that stand in a row from a block's head on. -/
structure RowF (w : World) (g cap : Nat) (fs : List FileL) (vs : Nat → Value) : Prop where
  le : fs.length ≤ cap
  max : cap ≤ maxLen
  lt : g < w.heap.size
  file : ∀ i, i < fs.length → FileC w g (i * 3) (vs i) (fs.getD i noF)
  free : ∀ j, w.frozen? ⟨g, j, none⟩ = false

theorem RowF.reads {w : World} {g cap : Nat} {fs : List FileL} {vs : Nat → Value} (h : RowF w g cap fs vs) : DiskR w (.slice (some ⟨g, 0, none⟩) fs.length cap) fs :=
  ⟨_, cap, rfl, h.le, h.max, fun e => (by cases e), fun _ => ⟨g, 0, rfl, h.lt, vs, fun i hi => by simpa using h.file i hi⟩⟩
theorem RowF.below {w w' : World} {g cap B : Nat} {fs : List FileL} {vs : Nat → Value} (h : RowF w g cap fs vs) (hb : Below B w w') (hB : w.heap.size ≤ B) : RowF w' g cap fs vs :=
  ⟨h.le, h.max, Nat.lt_of_lt_of_le h.lt hb.size, fun i hi => (h.file i hi).below hb hB, fun j => (hb.frozen (p := ⟨g, j, none⟩) (Nat.lt_of_lt_of_le h.lt hB)).trans (h.free j)⟩
theorem OwnD.rowF {w : World} {base g n cap : Nat} {fs : List FileL} {vs : List Value} (h : OwnD w base (.slice (some ⟨g, 0, none⟩) n cap) fs vs) : RowF w g cap fs (fun i => vs.getD i undef) ∧ n = fs.length := by
  rcases h.shape with ⟨e, _⟩ | ⟨g', cap', e, _, hlt, hc, hm⟩
  · cases e
  · injection e with e1 e2 e3
    injection e1 with e1
    injection e1 with e1
    subst e1 e2 e3
    exact ⟨⟨hc, hm, hlt, h.files rfl, h.frozen⟩, rfl⟩
theorem RowF.set {w : World} {g cap k r : Nat} {fs : List FileL} {vs : Nat → Value} {f : FileL} {v x : Value} {u : Value} (h : RowF w g cap fs vs) (hk : k < fs.length) (hp : w.cell? ⟨g, k * 3 + r, none⟩ = some u) (hu : ∀ n, u ≠ .int .u8 n) (hr : r < 3)
    (hf : FileC (w.setCell ⟨g, k * 3 + r, none⟩ x) g (k * 3) v f) : RowF (w.setCell ⟨g, k * 3 + r, none⟩ x) g cap (fs.set k f) (fun i => if i = k then v else vs i) := by
  refine ⟨by rw [List.length_set]; exact h.le, h.max, by rw [size_setCell]; exact h.lt, fun i hi => ?_, fun j => (World.frozen?_setCell _ _ _ _).trans (h.free j)⟩
  rw [List.length_set] at hi
  by_cases e : i = k
  · subst e
    rw [getD_set_eq hk, if_pos rfl]
    exact hf
  · rw [getD_set_ne e, if_neg e]
    exact fileC_other (h.file i hi) hp hu hr e
theorem RowF.setSynced {w : World} {g cap k : Nat} {fs : List FileL} {vs : Nat → Value} (h : RowF w g cap fs vs) (hk : k < fs.length) (s : Int) :
    RowF (w.setCell ⟨g, k * 3 + 2, none⟩ (.int .i64 s)) g cap (fs.set k { fs.getD k noF with synced := s }) vs := by
  have := h.set hk (h.file k hk).2.2.1 (fun n hh => by cases hh) (by omega) (fileC_synced (s := s) (h.file k hk))
  refine ⟨this.le, this.max, this.lt, fun i hi => ?_, this.free⟩
  have h2 := this.file i hi
  by_cases e : i = k
  · subst e; simpa using h2
  · simpa [e] using h2
theorem RowF.setName {w : World} {g cap k : Nat} {fs : List FileL} {vs : Nat → Value} (h : RowF w g cap fs vs) (hk : k < fs.length) (n : ByteArray) :
    RowF (w.setCell ⟨g, k * 3, none⟩ (.string n)) g cap (fs.set k { fs.getD k noF with name := n }) vs := by
  have := h.set (r := 0) hk (h.file k hk).1 (fun n hh => by cases hh) (by omega) (fileC_name (n := n) (h.file k hk))
  refine ⟨this.le, this.max, this.lt, fun i hi => ?_, this.free⟩
  have h2 := this.file i hi
  by_cases e : i = k
  · subst e; simpa using h2
  · simpa [e] using h2
theorem RowF.setData {w : World} {g cap k : Nat} {fs : List FileL} {vs : Nat → Value} {v' : Value} {l : List Int} (h : RowF w g cap fs vs) (hk : k < fs.length) (hr : Reads .u8 w v' l) :
    RowF (w.setCell ⟨g, k * 3 + 1, none⟩ v') g cap (fs.set k { fs.getD k noF with data := l }) (fun i => if i = k then v' else vs i) :=
  h.set hk (h.file k hk).2.1 (fun n hh => by obtain ⟨a, c, e, _⟩ := (h.file k hk).2.2.2; rw [e] at hh; cases hh) (by omega) (fileC_data (h.file k hk) hr)
/-- A disk of the call's own: none, or a row. -/
theorem OwnD.row_or {w : World} {base : Nat} {v : Value} {fs : List FileL} {vs : List Value} (h : OwnD w base v fs vs) :
    (v = .slice none 0 0 ∧ fs = []) ∨ ∃ g cap, v = .slice (some ⟨g, 0, none⟩) fs.length cap ∧ base ≤ g ∧ RowF w g cap fs (fun i => vs.getD i undef) := by
  rcases h.shape with h1 | ⟨g, cap, e, hg, _⟩
  · exact .inl h1
  · subst e
    exact .inr ⟨g, cap, rfl, hg, h.rowF.1⟩
end Go.Proofs.Ytbfkmakfkbdafaa

namespace Go.Proofs.Ytbfkmakfkbdafaa
set_option maxRecDepth 100000
open Go.ChangeShapes Go.WideShapes Go.ChangeAt Go.RowKit

/-- A disk behind a store into a block of one cell that held a slice. -/
theorem DiskR.setBox {w : World} {v y : Value} {fs : List FileL} {q n c : Nat} {a : Option Addr} {t : TypeId} (h : DiskR w v fs) (hb : w.heap[q]? = some (.cells #[.slice a n c] t (0, 0))) : DiskR (w.setCell ⟨q, 0, none⟩ y) v fs := by
  have hc : w.cell? ⟨q, 0, none⟩ = some (.slice a n c) := by rw [cell_of_row w _ _ _ _ _ hb]; rfl
  refine h.setSlice hc (fun hn b off cap e hq => ?_)
  have hq' : q = b := hq
  subst hq'
  obtain ⟨a', cap', rfl, _, _, _, hel⟩ := h
  injection e with e1 _ _
  subst e1
  obtain ⟨b', off', e', _, vs', hv'⟩ := hel hn
  injection e' with e'
  injection e' with e1 e2
  subst e1 e2
  have c2 := (hv' 0 hn).2.1
  rw [cell_of_row w _ _ _ _ _ hb] at c2
  simp at c2
theorem DiskR.drew {w : World} {v : Value} {fs : List FileL} (h : DiskR w v fs) : DiskR w.drew v fs := h.below (Below.refl w.heap.size w).drew (Nat.le_refl _)
/-- The block of a result's cell, behind all that a call has done since. -/
theorem two_block1 {w w' : World} {v : Value} {t : TypeId} {o : Obj} (h : Below (w.heap.size + 2) ((w.alloc o).alloc (.cells #[v] t)) w') : w'.heap[w.heap.size + 1]? = some (.cells #[v] t (0, 0)) := by
  rw [h.block (w.heap.size + 1) (Nat.lt_succ_self _)]
  have := heap_alloc_new (w.alloc o) (.cells #[v] t)
  simpa using this
theorem two_frozen1 {w w' : World} {v : Value} {t : TypeId} {o : Obj} (h : Below (w.heap.size + 2) ((w.alloc o).alloc (.cells #[v] t)) w') : w'.frozen? ⟨w.heap.size + 1, 0, none⟩ = false :=
  (h.frozen (p := ⟨w.heap.size + 1, 0, none⟩) (Nat.lt_succ_self _)).trans (frozen_second _ _ _ _)
theorem heap_third (w : World) (o1 o2 : Obj) (v : Value) (t : TypeId) : (((w.alloc o1).alloc o2).alloc (.cells #[v] t)).heap[w.heap.size + 2]? = some (.cells #[v] t (0, 0)) := by
  have := heap_alloc_new ((w.alloc o1).alloc o2) (.cells #[v] t)
  simpa using this
theorem below_three {w w' : World} {o1 o2 o3 : Obj} (h : Below (w.heap.size + 3) (((w.alloc o1).alloc o2).alloc o3) w') : Below w.heap.size w w' :=
  (((below_alloc w o1).alloc (by simp) o2).alloc (by simp; omega) o3).trans (h.mono (by omega))
theorem below_four {w w' : World} {o1 o2 o3 o4 : Obj} (h : Below (w.heap.size + 4) ((((w.alloc o1).alloc o2).alloc o3).alloc o4) w') : Below w.heap.size w w' :=
  ((((below_alloc w o1).alloc (by simp) o2).alloc (by simp; omega) o3).alloc (by simp; omega) o4).trans (h.mono (by omega))
theorem cell_mid (w : World) (o1 o3 : Obj) (v : Value) (t : TypeId) : (((w.alloc o1).alloc (.cells #[v] t)).alloc o3).cell? ⟨w.heap.size + 1, 0, none⟩ = some v :=
  ((below_alloc ((w.alloc o1).alloc (.cells #[v] t)) o3).cell (p := ⟨w.heap.size + 1, 0, none⟩) (by simp)).trans (cell_second w o1 v t)
theorem cell_mid2 (w : World) (o1 o3 o4 : Obj) (v : Value) (t : TypeId) : ((((w.alloc o1).alloc (.cells #[v] t)).alloc o3).alloc o4).cell? ⟨w.heap.size + 1, 0, none⟩ = some v :=
  ((below_alloc (((w.alloc o1).alloc (.cells #[v] t)).alloc o3) o4).cell (p := ⟨w.heap.size + 1, 0, none⟩) (by simp)).trans (cell_mid w o1 o3 v t)
theorem cell_mid3 (w : World) (o1 o2 o4 : Obj) (v : Value) (t : TypeId) : ((((w.alloc o1).alloc o2).alloc (.cells #[v] t)).alloc o4).cell? ⟨w.heap.size + 2, 0, none⟩ = some v :=
  ((below_alloc (((w.alloc o1).alloc o2).alloc (.cells #[v] t)) o4).cell (p := ⟨w.heap.size + 2, 0, none⟩) (by simp)).trans (cell_third w o1 o2 v t)
theorem below_up (w : World) (o1 o2 o3 o4 : Obj) : Below w.heap.size w ((((w.alloc o1).alloc o2).alloc o3).alloc o4) :=
  (((below_alloc w o1).alloc (by simp) o2).alloc (by simp; omega) o3).alloc (by simp; omega) o4
theorem diskR_three {w : World} {v : Value} {fs : List FileL} (h : DiskR w v fs) (o1 o2 o3 : Obj) : DiskR (((w.alloc o1).alloc o2).alloc o3) v fs :=
  ((h.below (below_alloc _ o1) (Nat.le_refl _)).below (below_alloc _ o2) (Nat.le_refl _)).below (below_alloc _ o3) (Nat.le_refl _)
theorem diskR_four {w : World} {v : Value} {fs : List FileL} (h : DiskR w v fs) (o1 o2 o3 o4 : Obj) : DiskR ((((w.alloc o1).alloc o2).alloc o3).alloc o4) v fs := (diskR_three h o1 o2 o3).below (below_alloc _ o4) (Nat.le_refl _)
theorem heap_fourth (w : World) (o1 o2 o3 : Obj) (v : Value) (t : TypeId) : ((((w.alloc o1).alloc o2).alloc o3).alloc (.cells #[v] t)).heap[w.heap.size + 3]? = some (.cells #[v] t (0, 0)) := by
  have := heap_alloc_new (((w.alloc o1).alloc o2).alloc o3) (.cells #[v] t)
  simpa using this

/-- What a file's numbers must be. -/
def GoodF (f : FileL) : Prop := (∀ x ∈ f.data, 0 ≤ x ∧ x ≤ 255) ∧ -9223372036854775808 ≤ f.synced ∧ f.synced ≤ 9223372036854775807 ∧ f.name.size ≤ maxLen ∧ f.data.length ≤ 140737488351232
theorem good_nil : Good [] := fun i hi => by simp at hi
theorem good_ch {fs : List FileL} {g : List FileL × Int} (_hg : Good fs) (h : Good g.1) : Good (chF fs g).1 := by
  unfold chF
  split
  · exact h
  · exact good_nil
theorem good_set {fs : List FileL} {k : Nat} {f : FileL} (hg : Good fs) (hf : k < fs.length → GoodF f) : Good (fs.set k f) := fun i hi => by
  rw [List.length_set] at hi
  by_cases e : i = k
  · subst e; rw [getD_set_eq hi]; exact hf hi
  · rw [getD_set_ne e]; exact hg i hi
end Go.Proofs.Ytbfkmakfkbdafaa

namespace Go.Proofs.Ytbfkmakfkbdafaa
set_option maxRecDepth 100000
open Go.ChangeShapes Go.WideShapes Go.ChangeAt Go.RowKit
attribute [local go_sem ↓] exec_append

theorem Reads.setCells {w : World} {v : Value} {xs : List Int} {b o : Nat} {vs : List Value} (h : Reads .u8 w v xs) (hc : ∀ j, j < vs.length → ∃ u, w.cell? ⟨b, o + j, none⟩ = some u ∧ ∀ n, u ≠ .int .u8 n) : Reads .u8 (w.setCells b o vs) v xs := by
  obtain ⟨a, cap, rfl, h1, h2, h3, hcell⟩ := h
  refine ⟨a, cap, rfl, h1, h2, h3, fun x hx i hi => ?_⟩
  have h4 := hcell x hx i hi
  rw [World.cell?_setCells_out b vs o w (x.add i) (fun e1 e2 => ?_), h4]
  rcases Nat.lt_or_ge (x.add i).off o with hlt | hge
  · exact .inl hlt
  · rcases Nat.lt_or_ge (x.add i).off (o + vs.length) with hlt2 | hge2
    · obtain ⟨u, hu, hne⟩ := hc ((x.add i).off - o) (by omega)
      have ea : (⟨b, o + ((x.add i).off - o), none⟩ : Addr) = x.add i := by
        rw [show o + ((x.add i).off - o) = (x.add i).off by omega, ← e1, ← e2]
      rw [ea, h4] at hu
      injection hu with hu
      exact absurd hu.symm (hne _)
    · exact .inr hge2
theorem below_setCells (b : Nat) {B : Nat} (hB : B ≤ b) : ∀ (vs : List Value) (o : Nat) (a w : World), Below B a w → Below B a (w.setCells b o vs)
  | [], _, _, _, h => h
  | v :: r, o, a, _, h => below_setCells b hB r (o + 1) a _ (h.setCell (p := ⟨b, o, none⟩) hB v)
theorem size_setCells (b : Nat) : ∀ (vs : List Value) (o : Nat) (w : World), (w.setCells b o vs).heap.size = w.heap.size
  | [], _, _ => rfl
  | v :: r, o, w => by rw [World.setCells, size_setCells b r, size_setCell]

theorem getD_erase {fs : List FileL} {k i : Nat} : (fs.eraseIdx k).getD i noF = if i < k then fs.getD i noF else fs.getD (i + 1) noF := by
  rw [List.getD_eq_getElem?_getD, List.getElem?_eraseIdx]
  split <;> rw [List.getD_eq_getElem?_getD]

/-- A cell of a row of files. -/
theorem RowF.cell {w : World} {g cap : Nat} {fs : List FileL} {vs : Nat → Value} (h : RowF w g cap fs vs) {j : Nat} (hj : j < fs.length * 3) : ∃ u, w.cell? ⟨g, j, none⟩ = some u ∧ (∀ n, u ≠ .int .u8 n) ∧ u.oneCell' = true := by
  obtain ⟨i, r, hr, rfl⟩ : ∃ i r, r < 3 ∧ j = i * 3 + r := ⟨j / 3, j % 3, by omega, by omega⟩
  obtain ⟨c1, c2, c3, a, c, e, _⟩ := h.file i (by omega)
  rcases (show r = 0 ∨ r = 1 ∨ r = 2 by omega) with rfl | rfl | rfl
  · exact ⟨_, c1, fun n hh => (by cases hh), rfl⟩
  · exact ⟨_, c2, fun n hh => (by rw [e] at hh; cases hh), by rw [e]; rfl⟩
  · exact ⟨_, c3, fun n hh => (by cases hh), rfl⟩

/-- The cells of the files from place u on. -/
def tailCells (w : World) (g u n : Nat) : List Value := (List.range (n - u)).map fun j => (w.cell? ⟨g, u + j, none⟩).getD undef
theorem tail_len (w : World) (g u n : Nat) : (tailCells w g u n).length = n - u := by simp [tailCells]
theorem tail_get {w : World} {g u n j : Nat} {x : Value} (h : (tailCells w g u n)[j]? = some x) : j < n - u ∧ x = (w.cell? ⟨g, u + j, none⟩).getD undef := by
  have hj : j < n - u := by
    have := (List.getElem?_eq_some_iff.1 h).1
    rwa [tail_len] at this
  refine ⟨hj, ?_⟩
  rw [tailCells, List.getElem?_map, List.getElem?_range hj] at h
  simpa using h.symm
def zeroF : List Value := [.string ByteArray.empty, .slice none 0 0, .int .i64 0]

/-- The row without one file: its cells moved, the last ones cleared. -/
theorem RowF.erase {w : World} {g cap k : Nat} {fs : List FileL} {vs : Nat → Value} (h : RowF w g cap fs vs) (hk : k < fs.length) :
    RowF ((w.setCells g (k * 3) (tailCells w g ((k + 1) * 3) (fs.length * 3))).setCells g ((fs.length - 1) * 3) zeroF) g cap (fs.eraseIdx k) (fun i => if i < k then vs i else vs (i + 1)) := by
  have hl : (fs.eraseIdx k).length = fs.length - 1 := List.length_eraseIdx_of_lt hk
  have hc1 : ∀ j, j < (tailCells w g ((k + 1) * 3) (fs.length * 3)).length → ∃ u, w.cell? ⟨g, k * 3 + j, none⟩ = some u ∧ ∀ n, u ≠ .int .u8 n := fun j hj => by
    rw [tail_len] at hj
    obtain ⟨u, h1, h2, _⟩ := h.cell (j := k * 3 + j) (by omega)
    exact ⟨u, h1, h2⟩
  -- the cells behind the move
  have hin : ∀ j, (k + 1) * 3 + j < fs.length * 3 → (w.setCells g (k * 3) (tailCells w g ((k + 1) * 3) (fs.length * 3))).cell? ⟨g, k * 3 + j, none⟩ = w.cell? ⟨g, (k + 1) * 3 + j, none⟩ := fun j hj => by
    have hjl : j < (tailCells w g ((k + 1) * 3) (fs.length * 3)).length := by rw [tail_len]; omega
    rw [World.cell?_setCells_in g _ (k * 3) w (fun i hi => by obtain ⟨u, hu, _⟩ := hc1 i hi; rw [hu]; rfl) j hjl]
    obtain ⟨_, e⟩ := tail_get (List.getElem?_eq_getElem hjl)
    obtain ⟨u, hu, _⟩ := h.cell (j := (k + 1) * 3 + j) hj
    rw [e, hu]; rfl
  have hout : ∀ j, (j < k * 3 ∨ (fs.length - 1) * 3 ≤ j) → (w.setCells g (k * 3) (tailCells w g ((k + 1) * 3) (fs.length * 3))).cell? ⟨g, j, none⟩ = w.cell? ⟨g, j, none⟩ := fun j hj =>
    World.cell?_setCells_out g _ _ w ⟨g, j, none⟩ (fun _ _ => by rw [tail_len]; show j < k * 3 ∨ k * 3 + (fs.length * 3 - (k + 1) * 3) ≤ j; omega)
  have hc2 : ∀ j, j < zeroF.length → ∃ u, (w.setCells g (k * 3) (tailCells w g ((k + 1) * 3) (fs.length * 3))).cell? ⟨g, (fs.length - 1) * 3 + j, none⟩ = some u ∧ ∀ n, u ≠ .int .u8 n := fun j hj => by
    have hj3 : j < 3 := hj
    rw [hout _ (.inr (by omega))]
    obtain ⟨u, h1, h2, _⟩ := h.cell (j := (fs.length - 1) * 3 + j) (by omega)
    exact ⟨u, h1, h2⟩
  have hfar : ∀ j, j < (fs.length - 1) * 3 → ((w.setCells g (k * 3) (tailCells w g ((k + 1) * 3) (fs.length * 3))).setCells g ((fs.length - 1) * 3) zeroF).cell? ⟨g, j, none⟩ = (w.setCells g (k * 3) (tailCells w g ((k + 1) * 3) (fs.length * 3))).cell? ⟨g, j, none⟩ := fun j hj =>
    World.cell?_setCells_out g _ _ _ ⟨g, j, none⟩ (fun _ _ => .inl hj)
  refine ⟨by rw [hl]; have := h.le; omega, h.max, by rw [size_setCells, size_setCells]; exact h.lt, fun i hi => ?_, fun j => by rw [World.frozen?_setCells, World.frozen?_setCells]; exact h.free j⟩
  rw [hl] at hi
  rw [getD_erase]
  by_cases hlt : i < k
  · rw [if_pos hlt, if_pos hlt]
    obtain ⟨c1, c2, c3, c4⟩ := h.file i (by omega)
    exact ⟨by rw [hfar _ (by omega), hout _ (.inl (by omega))]; exact c1, by rw [hfar _ (by omega), hout _ (.inl (by omega))]; exact c2, by rw [hfar _ (by omega), hout _ (.inl (by omega))]; exact c3, (c4.setCells hc1).setCells hc2⟩
  · rw [if_neg hlt, if_neg hlt]
    obtain ⟨c1, c2, c3, c4⟩ := h.file (i + 1) (by omega)
    refine ⟨?_, ?_, ?_, (c4.setCells hc1).setCells hc2⟩
    · rw [hfar _ (by omega), show i * 3 = k * 3 + (i - k) * 3 by omega, hin _ (by omega), show (k + 1) * 3 + (i - k) * 3 = (i + 1) * 3 by omega]; exact c1
    · rw [hfar _ (by omega), show i * 3 + 1 = k * 3 + ((i - k) * 3 + 1) by omega, hin _ (by omega), show (k + 1) * 3 + ((i - k) * 3 + 1) = (i + 1) * 3 + 1 by omega]; exact c2
    · rw [hfar _ (by omega), show i * 3 + 2 = k * 3 + ((i - k) * 3 + 2) by omega, hin _ (by omega), show (k + 1) * 3 + ((i - k) * 3 + 2) = (i + 1) * 3 + 2 by omega]; exact c3

theorem run_clearF {w : World} {g o c : Nat} (hc : ∀ j, j < 3 → (w.cell? ⟨g, o + j, none⟩).isSome = true) (hf : ∀ j, w.frozen? ⟨g, j, none⟩ = false) (ty : TypeId) :
    (Builtin.clear_ #[38] ty #[.slice (some ⟨g, o, none⟩) 1 c]).run Try.prog w = .ok (.tuple #[]) (w.setCells g o zeroF) := by
  have hst := run_storeCells_cells (P := Try.prog) g o zeroF 0 w (fun j hj => by rw [Nat.add_zero]; exact hc j hj) (fun j _ => hf _) (fun v hv => by
      simp [zeroF] at hv
      rcases hv with rfl | rfl | rfl <;> rfl)
  simp only [Nat.add_zero] at hst
  have hzc : (Builtin.zeroCells (Value.agg #[.string ⟨#[]⟩, .slice none 0 0, .int .i64 0]).cells 1).toList = zeroF := by kernel_rfl
  simp [Builtin.clear_, run_underlying Try.underlying38, hzc, hst]

set_option maxHeartbeats 1000000 in
set_option maxRecDepth 100000 in
theorem delete_m (g cap k m : Nat) (fs : List FileL) (vs : Nat → Value) (w : World) (h : RowF w g cap fs vs) (hlen : fs.length = m + 1) (hk : k < m + 1) :
    Calls Try.prog 85 #[.slice (some ⟨g, 0, none⟩) (m + 1) cap, .int .i64 k, .int .i64 ((k : Int) + 1)] w fun e w' => ∃ vs', e = .returned (.slice (some ⟨g, 0, none⟩) m cap) ∧ RowF w' g cap (fs.eraseIdx k) vs' ∧ Below g w w' := by
  obtain ⟨i0, hi, hz0, hz1, hz2⟩ := info_parts Try.infoF
  have hD : RowF w.drew g cap fs vs := h.below (Below.refl w.heap.size w).drew (Nat.le_refl _)
  have HR : Hid (RowF w.drew g cap fs vs) := hD
  have HE : Hid (RowF ((w.drew.setCells g (k * 3) (tailCells w.drew g ((k + 1) * 3) (fs.length * 3))).setCells g ((fs.length - 1) * 3) zeroF) g cap (fs.eraseIdx k) (fun i => if i < k then vs i else vs (i + 1))) := hD.erase (by omega)
  have hle : m + 1 ≤ cap := by rw [← hlen]; exact h.le
  have hm := h.max
  unfold maxLen at hm
  have HLEN : Hid (fs.length = m + 1) := hlen
  rw [HLEN.out] at HE
  have hrun : ∀ ad l c, l = m + 1 - (k + 1) → c = cap - (k + 1) → (∀ j, j < (m + 1) * 3 - (k + 1) * 3 → ad.add j = (⟨g, (k + 1) * 3 + j, none⟩ : Addr)) → (Builtin.append_ #[38, 38] 38 #[.slice (some ⟨g, 0, none⟩) k cap, .slice (some ad) l c]).run Try.prog w.drew = .ok (.slice (some ⟨g, 0, none⟩) m cap) (w.drew.setCells g (k * 3) (tailCells w.drew g ((k + 1) * 3) ((m + 1) * 3))) := fun ad l c hl hc had => by
    subst hl hc
    have hap := run_append_room_cells (P := Try.prog) w.drew 38 38 68 i0 Try.underlying38 hi g 0 k cap ad (m + 1 - (k + 1)) (cap - (k + 1)) (tailCells w.drew g ((k + 1) * 3) ((m + 1) * 3)) (by rw [tail_len, hz1]; omega) (fun j u hu => by
        obtain ⟨hj, rfl⟩ := tail_get hu
        obtain ⟨u, hu2, _⟩ := HR.out.cell (j := (k + 1) * 3 + j) (by rw [HLEN.out]; omega)
        rw [had j hj, hu2]; rfl) (fun u hu => by
        obtain ⟨j, hj⟩ := List.getElem?_of_mem hu
        obtain ⟨hj2, rfl⟩ := tail_get hj
        obtain ⟨u, hu2, _, h1⟩ := HR.out.cell (j := (k + 1) * 3 + j) (by rw [HLEN.out]; omega)
        rw [hu2]; exact h1) (by omega) (fun j hj => by
        rw [tail_len] at hj
        obtain ⟨u, hu2, _⟩ := HR.out.cell (j := 0 + k * i0.size + j) (by rw [hz1, HLEN.out]; omega)
        rw [hu2]; rfl) (fun j _ => HR.out.free _)
    rw [hz1, Nat.zero_add, show k + (m + 1 - (k + 1)) = m by omega] at hap
    exact hap
  have hB : Hid (Below g w ((w.drew.setCells g (k * 3) (tailCells w.drew g ((k + 1) * 3) ((m + 1) * 3))).setCells g (m * 3) zeroF)) :=
    below_setCells g (Nat.le_refl _) _ _ _ _ (below_setCells g (Nat.le_refl _) _ _ _ _ (Below.refl g w).drew)
  have hclr : ∀ (c : Nat) (ty : TypeId), (Builtin.clear_ #[38] ty #[.slice (some ⟨g, m * 3, none⟩) 1 c]).run Try.prog (w.drew.setCells g (k * 3) (tailCells w.drew g ((k + 1) * 3) ((m + 1) * 3))) = .ok (.tuple #[]) ((w.drew.setCells g (k * 3) (tailCells w.drew g ((k + 1) * 3) ((m + 1) * 3))).setCells g (m * 3) zeroF) := fun c ty =>
    run_clearF (fun j hj => by
      rw [World.cell?_setCells_out g _ _ w.drew ⟨g, m * 3 + j, none⟩ (fun _ _ => by rw [tail_len]; show m * 3 + j < k * 3 ∨ k * 3 + ((m + 1) * 3 - (k + 1) * 3) ≤ m * 3 + j; omega)]
      obtain ⟨u, hu, _⟩ := HR.out.cell (j := m * 3 + j) (by rw [HLEN.out]; omega)
      rw [hu]; rfl) (fun j => by rw [World.frozen?_setCells]; exact HR.out.free j) ty
  clear h hlen hD
  generalize tailCells w.drew g ((k + 1) * 3) ((m + 1) * 3) = news at *
  have hne : ((k : Int) == (k : Int) + 1) = false := by rw [beq_eq_false_iff_ne]; omega
  have q0 : (0 : Int) ≤ (k : Int) := by omega
  have q1 : (k : Int) + 1 ≤ (m : Int) + 1 := by omega
  have q2 : (m : Int) + 1 ≤ (cap : Int) := by omega
  have q3 : (0 : Int) ≤ (m : Int) := by omega
  have q4 : (m : Int) < (cap : Int) := by omega
  by_cases hcap : k + 1 = cap
  · have hkm : k = m := by omega
    subst hkm
    obtain ⟨a1, a2, a3⟩ := appOk_of (hrun ⟨g, 0, none⟩ 0 0 (by omega) (by omega) (fun j hj => by omega))
    clear hrun
    subst hcap
    go_enter Try.func85, Try.ntmps85
    go_wp2_with fail
    go_region
    go_wp2_with fail
    go_ret
    exact ⟨_, rfl, by have := HE.out; simpa using this, hB.out⟩
  · have hcap' : ((k : Int) + 1) < (cap : Int) := by omega
    obtain ⟨a1, a2, a3⟩ := appOk_of (hrun ⟨g, (k + 1) * 3, none⟩ (m - k) (cap - (k + 1)) (by omega) rfl (fun j hj => by unfold Addr.add; split <;> simp_all))
    clear hrun
    go_enter Try.func85, Try.ntmps85
    go_wp2_with fail
    go_region
    go_wp2_with fail
    go_ret
    exact ⟨_, rfl, by have := HE.out; simpa using this, hB.out⟩

theorem delete_any (g cap k : Nat) (fs : List FileL) (vs : Nat → Value) (w : World) (h : RowF w g cap fs vs) (hk : k < fs.length) :
    Calls Try.prog 85 #[.slice (some ⟨g, 0, none⟩) fs.length cap, .int .i64 k, .int .i64 ((k : Int) + 1)] w fun e w' => ∃ vs', e = .returned (.slice (some ⟨g, 0, none⟩) (fs.eraseIdx k).length cap) ∧ RowF w' g cap (fs.eraseIdx k) vs' ∧ Below g w w' := by
  obtain ⟨m, hm⟩ : ∃ m, fs.length = m + 1 := ⟨fs.length - 1, by omega⟩
  have e : (fs.eraseIdx k).length = m := by rw [List.length_eraseIdx_of_lt hk]; omega
  rw [e, hm]
  exact delete_m g cap k m fs vs w h hm (by omega)

set_option maxHeartbeats 400000 in
theorem drop_any (p g cap k : Nat) (fs : List FileL) (vs : Nat → Value) (w : World) (hc : w.cell? ⟨p, 0, none⟩ = some (.slice (some ⟨g, 0, none⟩) fs.length cap)) (hf : w.frozen? ⟨p, 0, none⟩ = false) (hpg : p < g) (h : RowF w g cap fs vs) (hk : k < fs.length) :
    Calls Try.prog 76 #[.pointer (some ⟨p, 0, none⟩), .int .i64 k] w fun e w' => ∃ v', e = .returned (.tuple #[]) ∧ w'.cell? ⟨p, 0, none⟩ = some v' ∧ DiskR w' v' (fs.eraseIdx k) ∧ Below p w w' := by
  have HR : Hid (RowF w g cap fs vs) := h
  have hle := h.le
  have hm := h.max
  unfold maxLen at hm
  clear h
  go_enter Try.func76, Try.ntmps76
  go_wp2_with fail
  refine (delete_any g cap k fs vs _ HR.out hk).mono ?_
  rintro e w1 ⟨vs', rfl, hr1, hb1⟩
  have c1 : w1.cell? ⟨p, 0, none⟩ = some (.slice (some ⟨g, 0, none⟩) fs.length cap) := (hb1.cell (p := ⟨p, 0, none⟩) hpg).trans hc
  have f1 : w1.frozen? ⟨p, 0, none⟩ = false := (hb1.frozen (p := ⟨p, 0, none⟩) hpg).trans hf
  have D1 : Hid (DiskR (w1.setCell ⟨p, 0, none⟩ (.slice (some ⟨g, 0, none⟩) (fs.eraseIdx k).length cap)) (.slice (some ⟨g, 0, none⟩) (fs.eraseIdx k).length cap) (fs.eraseIdx k)) := by
    refine hr1.reads.setSlice c1 (fun _ b off cap' e hb => ?_)
    injection e with e1 _ _
    injection e1 with e1
    injection e1 with e1 _
    have hb' : p = b := hb
    omega
  have B1 : Hid (Below p w w1) := hb1.mono (Nat.le_of_lt hpg)
  clear hb1 hr1
  generalize hE : (fs.eraseIdx k) = fs' at *
  have HE : Hid (fs.eraseIdx k = fs') := hE
  clear hE
  go_wp2_with fail
  go_end0
  exact ⟨_, rfl, World.cell?_setCell_same _ _ _ c1, by rw [HE.out]; exact D1.out, B1.out.setCell (p := ⟨p, 0, none⟩) (show p ≤ p from Nat.le_refl _) _⟩
end Go.Proofs.Ytbfkmakfkbdafaa

namespace Go.Proofs.Ytbfkmakfkbdafaa
set_option maxRecDepth 100000
open Go.ChangeShapes Go.WideShapes Go.ChangeAt Go.RowKit

/-- P3.7, of a disk that may be. -/
def removeF (fs : List FileL) (n : ByteArray) : List FileL × Int :=
  if atF fs n < 0 then ([], 7) else (fs.eraseIdx (atF fs n).toNat, 0)
theorem removeF_none {fs : List FileL} {n : ByteArray} (h : atF fs n = -1) : removeF fs n = ([], 7) := by simp [removeF, h]
theorem removeF_some {fs : List FileL} {n : ByteArray} {k : Nat} (h : atF fs n = k) : removeF fs n = (fs.eraseIdx k, 0) := by
  simp only [removeF, h]
  rw [if_neg (by omega)]; simp
theorem removeF_err {fs : List FileL} {n : ByteArray} : (removeF fs n).2 ≠ 0 → (removeF fs n).1 = [] := by
  rcases atF_cases fs n with ⟨k, hk, e, _, _⟩ | ⟨e, _⟩
  · rw [removeF_some e]; simp
  · rw [removeF_none e]; simp
theorem good_erase {fs : List FileL} {k : Nat} (hg : Good fs) (hk : k < fs.length) : Good (fs.eraseIdx k) := fun i hi => by
  rw [List.length_eraseIdx_of_lt hk] at hi
  rw [getD_erase]
  split
  · exact hg i (by omega)
  · exact hg (i + 1) (by omega)
theorem good_remove {fs : List FileL} {n : ByteArray} (hg : Good fs) : Good (removeF fs n).1 := by
  rcases atF_cases fs n with ⟨k, hk, e, _, _⟩ | ⟨e, _⟩
  · rw [removeF_some e]; exact good_erase hg hk
  · rw [removeF_none e]; exact good_nil

set_option maxHeartbeats 1000000 in
set_option maxRecDepth 100000 in
theorem remove_any (p B : Nat) (v3 : Value) (fs : List FileL) (vs : List Value) (n : ByteArray) (w : World) (hpB : p < B) (_hB : B ≤ w.heap.size) (hc : w.cell? ⟨p, 0, none⟩ = some v3) (hf : w.frozen? ⟨p, 0, none⟩ = false) (ho : OwnD w B v3 fs vs) (_hmay : mayB fs = true) (_hn : n.size ≤ maxLen) :
    Calls Try.prog 60 #[.pointer (some ⟨p, 0, none⟩), .string n] w fun e w4 => ∃ v4, e = .returned (.int .i64 (removeF fs n).2) ∧ w4.cell? ⟨p, 0, none⟩ = some v4 ∧ ((removeF fs n).2 = 0 → DiskR w4 v4 (removeF fs n).1) ∧ Below p w w4 := by
  have lp : p < w.heap.size := World.block_lt_of_cell? w _ hc
  have HO : Hid (OwnD w B v3 fs vs) := ho
  clear ho
  go_enter Try.func60, Try.ntmps60
  go_wp2_with fail
  refine (find_any p v3 fs n _ hc HO.out.reads).mono ?_
  rintro e w1 ⟨rfl, hb1⟩
  have O1 : Hid (OwnD w1 B v3 fs vs) := HO.out.below hb1 (Nat.le_refl _)
  have c1 : w1.cell? ⟨p, 0, none⟩ = some v3 := (hb1.cell (p := ⟨p, 0, none⟩) lp).trans hc
  have f1 : w1.frozen? ⟨p, 0, none⟩ = false := (hb1.frozen (p := ⟨p, 0, none⟩) lp).trans hf
  have B1 : Hid (Below p w w1) := hb1.mono (Nat.le_of_lt lp)
  clear hb1
  rcases atF_cases fs n with ⟨k, hk, e, _, _⟩ | ⟨e, _⟩
  · have HF : Hid (removeF fs n = (fs.eraseIdx k, 0)) := removeF_some e
    rw [e]
    clear e
    rcases O1.out.row_or with ⟨_, rfl⟩ | ⟨g, cap, rfl, hg, hrow⟩
    · simp at hk
    have HR : Hid (RowF w1 g cap fs (fun i => vs.getD i undef)) := hrow
    clear hrow
    go_wp2_with fail
    refine (drop_any p g cap k fs _ _ c1 f1 (by omega) HR.out hk).mono ?_
    rintro e w2 ⟨v2, rfl, hc2, hd2, hb2⟩
    have D2 : Hid (DiskR w2 v2 (fs.eraseIdx k)) := hd2
    clear hd2
    go_wp2_with fail
    go_ret
    exact ⟨v2, by rw [HF.out]; rfl, hc2, fun _ => by rw [HF.out]; exact D2.out, B1.out.trans hb2⟩
  · have HF : Hid (removeF fs n = ([], 7)) := removeF_none e
    rw [e]
    clear e
    go_wp2_with fail
    go_ret
    exact ⟨v3, by rw [HF.out]; rfl, c1, fun h => by rw [HF.out] at h; simp at h, B1.out⟩

set_option maxHeartbeats 400000 in
theorem remove1_any (p B q1 : Nat) (v3 : Value) (fs : List FileL) (vs : List Value) (n1 : ByteArray) (w : World) (hpB : p < B) (hB : B ≤ w.heap.size) (hq1 : w.cell? ⟨q1, 0, none⟩ = some (.string n1)) (hc : w.cell? ⟨p, 0, none⟩ = some v3) (hf : w.frozen? ⟨p, 0, none⟩ = false) (ho : OwnD w B v3 fs vs) (hmay : mayB fs = true) (hn1 : n1.size ≤ maxLen) :
    Calls Try.prog 59 #[.pointer (some ⟨p, 0, none⟩), .pointer (some ⟨q1, 0, none⟩)] w fun e w4 => ∃ v4, e = .returned (.int .i64 (removeF fs n1).2) ∧ w4.cell? ⟨p, 0, none⟩ = some v4 ∧ ((removeF fs n1).2 = 0 → DiskR w4 v4 (removeF fs n1).1) ∧ Below p w w4 := by
  have HO : Hid (OwnD w B v3 fs vs) := ho
  have HMAY : Hid (mayB fs = true) := hmay
  clear ho hmay
  go_enter Try.func59, Try.ntmps59
  go_wp2_with fail
  refine (remove_any p B v3 fs vs n1 _ hpB hB hc hf HO.out HMAY.out hn1).mono ?_
  rintro e w1 ⟨v4, rfl, h1, h2, h3⟩
  have H2 : Hid ((removeF fs n1).2 = 0 → DiskR w1 v4 (removeF fs n1).1) := h2
  clear h2
  go_wp2_with fail
  go_ret
  exact ⟨v4, rfl, h1, H2.out, h3⟩

theorem enter_remove (args : Array Value) (w : World) : (callFunc 59 args).run Try.prog w = .ok (.enter 59 args) w := by go_simp

set_option maxHeartbeats 400000 in
theorem diskRemove_any (v : Value) (fs : List FileL) (n1 : ByteArray) (w : World) (h : DiskR w v fs) (hg : Good fs) (hn1 : n1.size ≤ maxLen) :
    Calls Try.prog 34 #[.agg #[v], .string n1] w fun e w' => ∃ v', e = .returned (.tuple #[.agg #[v'], .int .i64 (chF fs (removeF fs n1)).2]) ∧ DiskR w' v' (chF fs (removeF fs n1)).1 ∧ Below w.heap.size w w' := by
  have hmf : ∀ (fn : Fn) (first cap : Array Value) (w : World), (Instr.makeFunc fn first cap).run Try.prog w = .ok (.func fn first cap) w := fun _ _ _ _ => rfl
  have HG : Hid (Good fs) := hg
  have HD : Hid (DiskR w v fs) := h
  obtain ⟨a, cap, rfl, _, _, _, _⟩ := h
  clear hg
  go_enter Try.func34, Try.ntmps34
  go_wp2_with fail
  refine (changed_one _ fs (removeF fs n1) 59 (.pointer (some ⟨w.heap.size + 1, 0, none⟩)) _ ?_ HG.out removeF_err enter_remove ?_).mono ?_
  · exact diskR_three HD.out _ _ _
  · intro p B w3 v3 vs h1 h2 h3 h4 h5 h6 h7 h8
    refine remove1_any p B (w.heap.size + 1) v3 fs vs n1 w3 h2 h3 ?_ h4 h5 h6 h8 hn1
    exact (h7.cell (p := ⟨w.heap.size + 1, 0, none⟩) (by simp)).trans (cell_mid _ _ _ _ _)
  rintro e w1 ⟨v1, rfl, hd1, hb1⟩
  have hb1' : Below (w.heap.size + 3) (((w.alloc (.cells #[.slice a fs.length cap] 40)).alloc (.cells #[.string n1] 9)).alloc (.cells #[.slice none 0 0] 40)) w1 := by simpa using hb1
  have hblk : w1.heap[w.heap.size + 2]? = some (.cells #[.slice none 0 0] 40 (0, 0)) := (hb1'.block _ (Nat.lt_succ_self _)).trans (heap_third _ _ _ _ _)
  have t1 : w1.cell? ⟨w.heap.size + 2, 0, none⟩ = some (.slice none 0 0) := by rw [cell_of_row w1 _ _ _ _ _ hblk]; rfl
  have t2 : w1.frozen? ⟨w.heap.size + 2, 0, none⟩ = false := by simp only [World.frozen?, hblk]; simp
  have B1 : Hid (Below w.heap.size w w1) := below_three hb1'
  have D2 : Hid (∀ y, DiskR (w1.setCell ⟨w.heap.size + 2, 0, none⟩ y) v1 (chF fs (removeF fs n1)).1) := fun y => hd1.setBox hblk
  obtain ⟨a1, c1, rfl, _, _, _, _⟩ := hd1
  clear hb1 hb1' hblk
  generalize hq : chF fs (removeF fs n1) = q at *
  have HQ : Hid (chF fs (removeF fs n1) = q) := hq
  clear hq
  go_wp2_with fail
  exact bodyPost_ret (v := .tuple #[.agg #[.slice a1 q.1.length c1], .int .i64 q.2]) (by simp [results, Try.results34, go_sem, t1]) rfl ⟨_, by rw [HQ.out], by rw [HQ.out]; exact D2.out _, B1.out.setCell (show w.heap.size ≤ w.heap.size + 2 by omega) _⟩
end Go.Proofs.Ytbfkmakfkbdafaa

namespace Go.Proofs.Ytbfkmakfkbdafaa
set_option maxRecDepth 100000
open Go.ChangeShapes Go.WideShapes Go.ChangeAt Go.RowKit

/-- The files with these bytes behind the data of file k, if there is room. -/
def putF (fs : List FileL) (k : Nat) (l : List Int) : List FileL × Int :=
  if 100000 < (fs.getD k noF).data.length + l.length then ([], 10) else (fs.set k { fs.getD k noF with data := (fs.getD k noF).data ++ l }, 0)
/-- P3.2, of a disk that may be. -/
def appendF (fs : List FileL) (n : ByteArray) (l : List Int) : List FileL × Int :=
  if nmB n = true then if atF fs n < 0 then (if fs.length = 40 then ([], 10) else putF (fs ++ [⟨n, [], 0⟩]) fs.length l) else putF fs (atF fs n).toNat l else ([], 1)
theorem appendF_size {fs : List FileL} {n : ByteArray} {l : List Int} (h : nmB n = false) : appendF fs n l = ([], 1) := by simp [appendF, h]
theorem appendF_full {fs : List FileL} {n : ByteArray} {l : List Int} (h : nmB n = true) (h1 : atF fs n = -1) (h2 : fs.length = 40) : appendF fs n l = ([], 10) := by simp [appendF, h, h1, h2]
theorem appendF_new {fs : List FileL} {n : ByteArray} {l : List Int} (h : nmB n = true) (h1 : atF fs n = -1) (h2 : fs.length ≠ 40) : appendF fs n l = putF (fs ++ [⟨n, [], 0⟩]) fs.length l := by simp [appendF, h, h1, h2]
theorem appendF_some {fs : List FileL} {n : ByteArray} {l : List Int} {k : Nat} (h : nmB n = true) (h1 : atF fs n = k) : appendF fs n l = putF fs k l := by
  simp only [appendF, h, h1, if_true]
  rw [if_neg (by omega)]; simp
theorem putF_over {fs : List FileL} {k : Nat} {l : List Int} (h : 100000 < (fs.getD k noF).data.length + l.length) : putF fs k l = ([], 10) := by simp only [putF, if_pos h]
theorem putF_ok {fs : List FileL} {k : Nat} {l : List Int} (h : ¬ 100000 < (fs.getD k noF).data.length + l.length) : putF fs k l = (fs.set k { fs.getD k noF with data := (fs.getD k noF).data ++ l }, 0) := by simp only [putF, if_neg h]
theorem putF_err {fs : List FileL} {k : Nat} {l : List Int} : (putF fs k l).2 ≠ 0 → (putF fs k l).1 = [] := by
  unfold putF; split <;> simp
theorem appendF_err {fs : List FileL} {n : ByteArray} {l : List Int} : (appendF fs n l).2 ≠ 0 → (appendF fs n l).1 = [] := by
  cases h0 : nmB n with
  | false => rw [appendF_size h0]; simp
  | true =>
    rcases atF_cases fs n with ⟨k, hk, e, _, _⟩ | ⟨e, _⟩
    · rw [appendF_some h0 e]; exact putF_err
    · by_cases h2 : fs.length = 40
      · rw [appendF_full h0 e h2]; simp
      · rw [appendF_new h0 e h2]; exact putF_err
theorem good_put {fs : List FileL} {k : Nat} {l : List Int} (hg : Good fs) (hl : ∀ x ∈ l, 0 ≤ x ∧ x ≤ 255) : Good (putF fs k l).1 := by
  by_cases h : 100000 < (fs.getD k noF).data.length + l.length
  · rw [putF_over h]; exact good_nil
  · rw [putF_ok h]
    refine good_set hg (fun hk => ?_)
    obtain ⟨h1, h2, h3, h4, h5⟩ := hg k hk
    refine ⟨fun x hx => ?_, h2, h3, h4, ?_⟩
    · rcases List.mem_append.1 hx with h9 | h9
      · exact h1 x h9
      · exact hl x h9
    · show ((fs.getD k noF).data ++ l).length ≤ _
      rw [List.length_append]; omega
theorem good_snoc {fs : List FileL} {f : FileL} (hg : Good fs) (hf : GoodF f) : Good (fs ++ [f]) := fun i hi => by
  by_cases hlt : i < fs.length
  · rw [getD_app_left hlt]; exact hg i hlt
  · have e : i = fs.length := by simp at hi; omega
    subst e
    rw [getD_app_last]; exact hf
theorem good_append {fs : List FileL} {n : ByteArray} {l : List Int} (hg : Good fs) (hn : n.size ≤ maxLen) (hl : ∀ x ∈ l, 0 ≤ x ∧ x ≤ 255) : Good (appendF fs n l).1 := by
  cases h0 : nmB n with
  | false => rw [appendF_size h0]; exact good_nil
  | true =>
    rcases atF_cases fs n with ⟨k, hk, e, _, _⟩ | ⟨e, _⟩
    · rw [appendF_some h0 e]; exact good_put hg hl
    · by_cases h2 : fs.length = 40
      · rw [appendF_full h0 e h2]; exact good_nil
      · rw [appendF_new h0 e h2]; exact good_put (good_snoc hg ⟨by simp, (show (-9223372036854775808 : Int) ≤ 0 by decide), (show (0 : Int) ≤ 9223372036854775807 by decide), hn, by simp⟩) hl

/-- The data of one file was appended to: the disk behind that. -/
theorem OwnD.put {w w' : World} {B g cap k : Nat} {fs : List FileL} {vs : List Value} {v' : Value} {l : List Int} (h : OwnD w B (.slice (some ⟨g, 0, none⟩) fs.length cap) fs vs) (hk : k < fs.length) (hg : w.grownBy w' (vs.getD k undef).ownBlock) (hr : Reads .u8 w' v' l) :
    DiskR (w'.setCell ⟨g, k * 3 + 1, none⟩ v') (.slice (some ⟨g, 0, none⟩) fs.length cap) (fs.set k { fs.getD k noF with data := l }) ∧ g < w.heap.size ∧ w'.cell? ⟨g, k * 3 + 1, none⟩ = some (vs.getD k undef) ∧ w'.frozen? ⟨g, k * 3 + 1, none⟩ = false := by
  obtain ⟨hrow, _⟩ := h.rowF
  have hgk : some g ≠ (vs.getD k undef).ownBlock := by
    rcases own_apart h.row (h.data k hk) (by decide) with e | e
    · cases e
    · exact e
  have cell : ∀ o, w'.cell? ⟨g, o, none⟩ = w.cell? ⟨g, o, none⟩ := fun o => hg.cell_far ⟨g, o, none⟩ hrow.lt hgk
  have frz : ∀ o, w'.frozen? ⟨g, o, none⟩ = w.frozen? ⟨g, o, none⟩ := fun o => hg.frozen_far ⟨g, o, none⟩ hrow.lt hgk
  obtain ⟨c1, c2, c3, c4⟩ := hrow.file k hk
  have hne : ∀ n, vs.getD k undef ≠ .int .u8 n := fun n hh => by obtain ⟨a, c, e, _⟩ := c4; rw [e] at hh; cases hh
  have c2' := (cell (k * 3 + 1)).trans c2
  refine ⟨?_, hrow.lt, c2', (frz _).trans (hrow.free _)⟩
  refine ⟨_, cap, by rw [List.length_set], by rw [List.length_set]; exact hrow.le, hrow.max, fun e => (by cases e), fun _ => ⟨g, 0, rfl, by rw [size_setCell]; exact Nat.lt_of_lt_of_le hrow.lt hg.size, fun i => if i = k then v' else vs.getD i undef, fun i hi => ?_⟩⟩
  rw [List.length_set] at hi
  rw [Nat.zero_add]
  by_cases e : i = k
  · subst e
    rw [getD_set_eq hi]
    show FileC _ _ _ (if i = i then v' else _) _
    rw [if_pos rfl]
    refine ⟨?_, World.cell?_setCell_same _ _ _ c2', ?_, hr.set c2' hne⟩
    · rw [World.cell?_setCell_other _ _ _ _ (addr_ne (by omega)), cell]; exact c1
    · rw [World.cell?_setCell_other _ _ _ _ (addr_ne (by omega)), cell]; exact c3
  · rw [getD_set_ne e]
    show FileC _ _ _ (if i = k then v' else vs.getD i undef) _
    rw [if_neg e]
    obtain ⟨d1, d2, d3, _⟩ := hrow.file i hi
    have d4 : w'.ownsRow B 5 1 (vs.getD i undef) (fs.getD i noF).data.length ((fs.getD i noF).data.map (Value.int .u8)) := (h.data i hi).kept hg (by
      rcases Nat.lt_or_gt_of_ne e with hlt | hgt
      · rcases h.apart i k hlt hk with e1 | e1
        · rcases (h.data i hi).2 with ⟨hv, _⟩ | ⟨g', _, _, hv, _⟩
          · rw [hv]; exact .inl rfl
          · exact .inr (by rw [e1, hv]; intro hh; cases hh)
        · exact .inr (fun e2 => e1 e2.symm)
      · exact h.apart k i hgt hi)
    refine fileC_other ⟨(cell _).trans d1, (cell _).trans d2, (cell _).trans d3, reads_own d4⟩ c2' hne (by omega) e

set_option maxHeartbeats 1000000 in
set_option maxRecDepth 100000 in
/-- What stands behind the finding of the file: by its place k. -/
theorem appendTo_any (p B : Nat) (v3 : Value) (fs : List FileL) (vs : List Value) (n : ByteArray) (b : Value) (x : List Int) (w : World) (hpB : p < B) (hB : B ≤ w.heap.size) (hc : w.cell? ⟨p, 0, none⟩ = some v3) (hf : w.frozen? ⟨p, 0, none⟩ = false) (ho : OwnD w B v3 fs vs) (hmay : mayB fs = true) (hn : n.size ≤ maxLen) (hr : ∀ w5, Below p w w5 → Reads .u8 w5 b x) (_hx : ∀ y ∈ x, 0 ≤ y ∧ y ≤ 255) :
    Calls Try.prog 62 #[.pointer (some ⟨p, 0, none⟩), .string n, b] w fun e w4 => ∃ v4, e = .returned (.int .i64 (appendF fs n x).2) ∧ w4.cell? ⟨p, 0, none⟩ = some v4 ∧ ((appendF fs n x).2 = 0 → DiskR w4 v4 (appendF fs n x).1) ∧ Below p w w4 := by
  obtain ⟨i0, hi, hz0, hz1, hz2⟩ := info_parts Try.infoF
  have lp : p < w.heap.size := World.block_lt_of_cell? w _ hc
  have h40 := (may_iff.1 hmay).1
  have HO : Hid (OwnD w B v3 fs vs) := ho
  have HRB : Hid (∀ w5, Below p w w5 → Reads .u8 w5 b x) := hr
  have HMAY : Hid (mayB fs = true) := hmay
  obtain ⟨ba, bc, hbe, hbc, hbm, _, _⟩ := hr w (Below.refl _ _)
  subst hbe
  clear ho hmay hr
  unfold maxLen at hbm
  go_enter Try.func62, Try.ntmps62
  go_wp2_with fail
  refine (nameMay_any n _ hn).mono ?_
  rintro e w0 ⟨rfl, rfl⟩
  cases h0 : nmB n with
  | false =>
    have HF : Hid (appendF fs n x = ([], 1)) := appendF_size h0
    clear h0
    go_wp2_with fail
    go_ret
    exact ⟨v3, by rw [HF.out]; rfl, hc, fun h => by rw [HF.out] at h; simp at h, Below.refl _ _⟩
  | true =>
    go_wp2_with fail
    refine (find_any p v3 fs n _ hc HO.out.reads).mono ?_
    rintro e w1 ⟨rfl, hb1⟩
    have O1 : Hid (OwnD w1 B v3 fs vs) := HO.out.below hb1 (Nat.le_refl _)
    have c1 : w1.cell? ⟨p, 0, none⟩ = some v3 := (hb1.cell (p := ⟨p, 0, none⟩) lp).trans hc
    have f1 : w1.frozen? ⟨p, 0, none⟩ = false := (hb1.frozen (p := ⟨p, 0, none⟩) lp).trans hf
    have B1 : Hid (Below p w0 w1) := hb1.mono (Nat.le_of_lt lp)
    have R1 : Hid (Reads .u8 w1 (.slice ba x.length bc) x) := HRB.out _ (hb1.mono (Nat.le_of_lt lp))
    have hs1 := hb1.size
    clear hb1
    rcases atF_cases fs n with ⟨k, hk, e, _, _⟩ | ⟨e, _⟩
    · have HF : Hid (appendF fs n x = putF fs k x) := appendF_some h0 e
      rw [e]
      clear e h0
      rcases O1.out.row_or with ⟨_, hnil⟩ | ⟨g, cap, hv, hg, hrow⟩
      · subst hnil; simp at hk
      subst hv
      obtain ⟨y1, y2, y3, da, dc, hdv, hd1, hd2, _, _⟩ := hrow.file k hk
      have hle := hrow.le
      have hmx := hrow.max
      have hglt := hrow.lt
      have hpg : p ≠ g := by omega
      unfold maxLen at hmx hd2
      have OD : Hid (w1.ownsRow B 5 1 (vs.getD k undef) (fs.getD k noF).data.length ((fs.getD k noF).data.map (Value.int .u8))) := O1.out.data k hk
      have PUT : Hid (∀ w' v', w1.grownBy w' (vs.getD k undef).ownBlock → Reads .u8 w' v' ((fs.getD k noF).data ++ x) → _) := fun w' v' h1 h2 => O1.out.put (w' := w') (v' := v') hk h1 h2
      have hgk : some g ≠ (vs.getD k undef).ownBlock := by
        rcases own_apart O1.out.row (O1.out.data k hk) (by decide) with e | e
        · cases e
        · exact e
      have q0 : (0 : Int) ≤ (k : Int) := by omega
      have q1 : (k : Int) < (fs.length : Int) := by omega
      have hdv' : vs.getD k undef = .slice da (fs.getD k noF).data.length dc := hdv
      rw [hdv'] at OD PUT hgk
      have y2' : w1.cell? ⟨g, k * 3 + 1, none⟩ = some (.slice da (fs.getD k noF).data.length dc) := by rw [← hdv]; exact y2
      clear y1 y2 y3 hdv hdv' hrow
      have HG9 : Hid (some g ≠ (Value.slice da (fs.getD k noF).data.length dc).ownBlock) := hgk
      clear hgk
      by_cases hov : 100000 < (fs.getD k noF).data.length + x.length
      · have HF2 : Hid (putF fs k x = ([], 10)) := putF_over hov
        have hov' : (100000 : Int) - ((fs.getD k noF).data.length : Int) < (x.length : Int) := by omega
        generalize (fs.getD k noF).data = dl at *
        go_wp2_with fail
        go_ret
        exact ⟨.slice (some ⟨g, 0, none⟩) fs.length cap, by rw [HF.out, HF2.out]; rfl, c1, fun h => by rw [HF.out, HF2.out] at h; simp at h, B1.out⟩
      · have HF2 : Hid (putF fs k x = (fs.set k { fs.getD k noF with data := (fs.getD k noF).data ++ x }, 0)) := putF_ok hov
        have hov' : ¬ (100000 : Int) - ((fs.getD k noF).data.length : Int) < (x.length : Int) := by omega
        generalize hDL : (fs.getD k noF).data = dl at *
        clear hDL
        go_wp2_with (at_builtin; refine wpList_append_reads rfl _ _ rfl B _ dl rfl OD.out _ x rfl R1.out (by omega) (by omega) ?_)
        intro v2 w2 hown2 hbel2 hgrow2
        have RV := reads_own (show w2.ownsRow B 5 1 v2 (dl ++ x).length ((dl ++ x).map (Value.int .u8)) by simpa using hown2)
        obtain ⟨DD, _, z1, z2⟩ := PUT.out w2 v2 hgrow2 RV
        obtain ⟨va, vn, vc, rfl⟩ : ∃ a n c, v2 = .slice a n c := by obtain ⟨a, c, h, _⟩ := RV; exact ⟨_, _, _, h⟩
        have pk : w2.cell? ⟨p, 0, none⟩ = some (.slice (some ⟨g, 0, none⟩) fs.length cap) := (hbel2.cell (p := ⟨p, 0, none⟩) hpB).trans c1
        have HDD : Hid (DiskR (w2.setCell ⟨g, k * 3 + 1, none⟩ (.slice va vn vc)) (.slice (some ⟨g, 0, none⟩) fs.length cap) (fs.set k { fs.getD k noF with data := dl ++ x })) := DD
        have B2 : Hid (Below p w0 (w2.setCell ⟨g, k * 3 + 1, none⟩ (.slice va vn vc))) := (B1.out.trans (hbel2.mono (by omega))).setCell (p := ⟨g, k * 3 + 1, none⟩) (show p ≤ g by omega) _
        clear DD hown2 hbel2 hgrow2 RV
        go_wp2_with fail
        go_ret
        exact ⟨by rw [HF.out, HF2.out]; rfl, .slice (some ⟨g, 0, none⟩) fs.length cap, by rw [World.cell?_setCell_other _ _ _ _ (fun e => hpg (congrArg Addr.block e).symm)]; exact pk, fun _ => by rw [HF.out, HF2.out]; exact HDD.out, B2.out⟩
    · by_cases hfull : fs.length = 40
      · have HF : Hid (appendF fs n x = ([], 10)) := appendF_full h0 e hfull
        rw [e]
        clear e h0
        have hfe : ((fs.length : Int) == 40) = true := by rw [hfull]; rfl
        clear hfull
        obtain ⟨va, vc, hv, _⟩ := O1.out.reads
        subst hv
        go_wp2_with fail
        go_ret
        exact ⟨_, by rw [HF.out]; rfl, c1, fun h => by rw [HF.out] at h; simp at h, B1.out⟩
      · have HF : Hid (appendF fs n x = putF (fs ++ [⟨n, [], 0⟩]) fs.length x) := appendF_new h0 e hfull
        rw [e]
        clear e h0
        have hfe : ((fs.length : Int) == 40) = false := by rw [beq_eq_false_iff_ne]; omega
        obtain ⟨va, vc, hv, _⟩ := O1.out.reads
        subst hv
        have HFL : Hid (fs.length ≠ 40) := hfull
        clear hfull
        go_wp2_with (at_builtin; refine wpList_append_lies _ rfl _ _ _ rfl B 68 i0 _ 3 48 Try.underlying38 hi hz0 hz1 hz2 rfl (by omega) _ _ _ rfl (O1.out.row.alloc _) ⟨w1.heap.size, 0, none⟩ 1 1 [.string n, .slice none 0 0, .int .i64 0] rfl rfl (World.news_of_block (cs := #[.string n, .slice none 0 0, .int .i64 0]) (t := 68) (fr := (0, 0)) (heap_alloc_new w1 _)) (file_oneCell ⟨n, [], 0⟩ rfl) (by omega) (by unfold maxLen; omega) (by omega) (by simp; omega) (w1.heap.size + 1) (by simp) ?_)
        intro g cap w2 hown2 hgrow2 hat2 hlt2
        have hnp : some p ≠ (Value.slice va fs.length vc).ownBlock := O1.out.not hpB
        have lp1 : p < w1.heap.size := by omega
        have c2 : w2.cell? ⟨p, 0, none⟩ = some (.slice va fs.length vc) := (hgrow2.cell_far ⟨p, 0, none⟩ (show p < _ by simp; omega) hnp).trans (((below_alloc w1 _).cell (p := ⟨p, 0, none⟩) lp1).trans c1)
        have f2 : w2.frozen? ⟨p, 0, none⟩ = false := (hgrow2.frozen_far ⟨p, 0, none⟩ (show p < _ by simp; omega) hnp).trans (((below_alloc w1 _).frozen (p := ⟨p, 0, none⟩) lp1).trans f1)
        have O2 : OwnD w2 B (.slice (some ⟨g, 0, none⟩) (fs.length + 1) cap) (fs ++ [⟨n, [], 0⟩]) (vs ++ [.slice none 0 0]) := (O1.out.alloc _).snoc (B := w1.heap.size + 1) (f := ⟨n, [], 0⟩) hown2 hgrow2 (World.ownsRow_nil _ _ _ _) (by omega) (fun i hi k hk => by have := O1.out.lt i hi k hk; omega)
        have hB2 : B ≤ w2.heap.size := by have := hgrow2.size; simp at this; omega
        have O3 : Hid (OwnD (w2.setCell ⟨p, 0, none⟩ (.slice (some ⟨g, 0, none⟩) (fs.length + 1) cap)) B (.slice (some ⟨g, 0, none⟩) (fs.length + 1) cap) (fs ++ [⟨n, [], 0⟩]) (vs ++ [.slice none 0 0])) := O2.setBelow hpB _
        have c3 : (w2.setCell ⟨p, 0, none⟩ (.slice (some ⟨g, 0, none⟩) (fs.length + 1) cap)).cell? ⟨p, 0, none⟩ = some (.slice (some ⟨g, 0, none⟩) (fs.length + 1) cap) := World.cell?_setCell_same _ _ _ c2
        have B2 : Hid (Below p w0 (w2.setCell ⟨p, 0, none⟩ (.slice (some ⟨g, 0, none⟩) (fs.length + 1) cap))) := ((B1.out.alloc (by omega) _).grown hgrow2 (by simp; omega) (fun j hj => by have := (O1.out.row.lt j hj).1; omega)).setCell (p := ⟨p, 0, none⟩) (show p ≤ p from Nat.le_refl _) _
        have R3 : Hid (Reads .u8 (w2.setCell ⟨p, 0, none⟩ (.slice (some ⟨g, 0, none⟩) (fs.length + 1) cap)) (.slice ba x.length bc) x) := HRB.out _ B2.out
        have hB3 : B ≤ (w2.setCell ⟨p, 0, none⟩ (.slice (some ⟨g, 0, none⟩) (fs.length + 1) cap)).heap.size := by rw [size_setCell]; exact hB2
        have hlen9 : (fs ++ [(⟨n, [], 0⟩ : FileL)]).length = fs.length + 1 := by simp
        have hk9 : fs.length < (fs ++ [(⟨n, [], 0⟩ : FileL)]).length := by omega
        have hrow := O3.out.rowF.1
        have y2 := (hrow.file fs.length hk9).2.1
        have hv9 : (vs ++ [Value.slice none 0 0]).getD fs.length undef = .slice none 0 0 := by rw [← O1.out.len]; exact getD_app_last
        have hf9 : (fs ++ [(⟨n, [], 0⟩ : FileL)]).getD fs.length noF = ⟨n, [], 0⟩ := getD_app_last
        have hle := hrow.le
        have hmx := hrow.max
        have hgB : B ≤ g := (O2.row.lt g rfl).1
        have hpg : p ≠ g := by omega
        unfold maxLen at hmx
        rw [hlen9] at hle
        have y2' : (w2.setCell ⟨p, 0, none⟩ (.slice (some ⟨g, 0, none⟩) (fs.length + 1) cap)).cell? ⟨g, fs.length * 3 + 1, none⟩ = some (.slice none 0 0) := by rw [← hv9]; exact y2
        have PUT : Hid (∀ w' v', (w2.setCell ⟨p, 0, none⟩ (.slice (some ⟨g, 0, none⟩) (fs.length + 1) cap)).grownBy w' none → Reads .u8 w' v' x → DiskR (w'.setCell ⟨g, fs.length * 3 + 1, none⟩ v') (.slice (some ⟨g, 0, none⟩) (fs.length + 1) cap) ((fs ++ [(⟨n, [], 0⟩ : FileL)]).set fs.length ⟨n, x, 0⟩) ∧ w'.cell? ⟨g, fs.length * 3 + 1, none⟩ = some (.slice none 0 0) ∧ w'.frozen? ⟨g, fs.length * 3 + 1, none⟩ = false) := fun w' v' h1 h2 => by
          have h9 := O3.out
          rw [← hlen9] at h9 h1 ⊢
          have h8 := h9.put (k := fs.length) hk9 (by rw [hv9]; exact h1) h2
          rw [hf9, hv9] at h8
          exact ⟨h8.1, h8.2.2⟩
        have HF9 : Hid ((fs ++ [(⟨n, [], 0⟩ : FileL)]).getD fs.length noF = ⟨n, [], 0⟩) := hf9
        clear hrow y2 hv9 hf9 O2 hown2 hgrow2 hat2
        have q0 : (0 : Int) ≤ (fs.length : Int) := by omega
        have q1 : (fs.length : Int) < (fs.length : Int) + 1 := by omega
        by_cases hov : 100000 < x.length
        · have HF2 : Hid (putF (fs ++ [⟨n, [], 0⟩]) fs.length x = ([], 10)) := putF_over (by rw [HF9.out]; simpa using hov)
          have hov' : (100000 : Int) < (x.length : Int) := by omega
          generalize hFL : fs.length = m at *
          clear hFL
          go_wp2_with fail
          go_ret
          exact ⟨.slice (some ⟨g, 0, none⟩) (m + 1) cap, by rw [HF.out, HF2.out]; rfl, c3, fun h => by rw [HF.out, HF2.out] at h; simp at h, B2.out⟩
        · have HF2 : Hid (putF (fs ++ [⟨n, [], 0⟩]) fs.length x = ((fs ++ [(⟨n, [], 0⟩ : FileL)]).set fs.length ⟨n, x, 0⟩, 0)) := by
            show _ = _
            rw [putF_ok (by rw [HF9.out]; simpa using hov), HF9.out]
            simp
          have hov' : ¬ (100000 : Int) < (x.length : Int) := by omega
          generalize hFL : fs.length = m at *
          clear hFL
          go_wp2_with (at_builtin; refine wpList_append_reads rfl _ _ rfl B _ [] rfl (World.ownsRow_nil _ _ _ _) _ x rfl R3.out (by simp; omega) (by first | exact hB3 | simpa using hB3) ?_)
          intro v4 w4 hown4 hbel4 hgrow4
          have RV := reads_own (show w4.ownsRow B 5 1 v4 x.length (x.map (Value.int .u8)) by simpa using hown4)
          obtain ⟨DD, z1, z2⟩ := PUT.out w4 v4 hgrow4 RV
          obtain ⟨va9, vn9, vc9, rfl⟩ : ∃ a n c, v4 = .slice a n c := by obtain ⟨a, c, h, _⟩ := RV; exact ⟨_, _, _, h⟩
          have pk : w4.cell? ⟨p, 0, none⟩ = some (.slice (some ⟨g, 0, none⟩) (m + 1) cap) := (hbel4.cell (p := ⟨p, 0, none⟩) hpB).trans c3
          have HDD : Hid (DiskR (w4.setCell ⟨g, m * 3 + 1, none⟩ (.slice va9 vn9 vc9)) (.slice (some ⟨g, 0, none⟩) (m + 1) cap) ((fs ++ [(⟨n, [], 0⟩ : FileL)]).set m ⟨n, x, 0⟩)) := DD
          have B4 : Hid (Below p w0 (w4.setCell ⟨g, m * 3 + 1, none⟩ (.slice va9 vn9 vc9))) := (B2.out.trans (hbel4.mono (by omega))).setCell (p := ⟨g, m * 3 + 1, none⟩) (show p ≤ g by omega) _
          clear DD hown4 hbel4 hgrow4 RV
          go_wp2_with fail
          go_ret
          exact ⟨.slice (some ⟨g, 0, none⟩) (m + 1) cap, by rw [HF.out, HF2.out]; rfl, by rw [World.cell?_setCell_other _ _ _ _ (fun e => hpg (congrArg Addr.block e).symm)]; exact pk, fun _ => by rw [HF.out, HF2.out]; exact HDD.out, B4.out⟩

set_option maxHeartbeats 400000 in
theorem appendTo1_any (p B q1 q2 : Nat) (v3 : Value) (fs : List FileL) (vs : List Value) (n1 : ByteArray) (b2 : Value) (x2 : List Int) (w : World) (hpB : p < B) (hB : B ≤ w.heap.size) (hq1 : w.cell? ⟨q1, 0, none⟩ = some (.string n1)) (hq2 : w.cell? ⟨q2, 0, none⟩ = some (b2)) (hc : w.cell? ⟨p, 0, none⟩ = some v3) (hf : w.frozen? ⟨p, 0, none⟩ = false) (ho : OwnD w B v3 fs vs) (hmay : mayB fs = true) (hn1 : n1.size ≤ maxLen) (hr2 : ∀ w5, Below p w w5 → Reads .u8 w5 b2 x2) (hx2 : ∀ x ∈ x2, 0 ≤ x ∧ x ≤ 255) :
    Calls Try.prog 61 #[.pointer (some ⟨p, 0, none⟩), .pointer (some ⟨q1, 0, none⟩), .pointer (some ⟨q2, 0, none⟩)] w fun e w4 => ∃ v4, e = .returned (.int .i64 (appendF fs n1 x2).2) ∧ w4.cell? ⟨p, 0, none⟩ = some v4 ∧ ((appendF fs n1 x2).2 = 0 → DiskR w4 v4 (appendF fs n1 x2).1) ∧ Below p w w4 := by
  have HO : Hid (OwnD w B v3 fs vs) := ho
  have HMAY : Hid (mayB fs = true) := hmay
  have HR2 : Hid (∀ w5, Below p w w5 → Reads .u8 w5 b2 x2) := hr2
  have HX2 : Hid (∀ x ∈ x2, 0 ≤ x ∧ x ≤ 255) := hx2
  clear hr2 hx2
  clear ho hmay
  go_enter Try.func61, Try.ntmps61
  go_wp2_with fail
  refine (appendTo_any p B v3 fs vs n1 b2 x2 _ hpB hB hc hf HO.out HMAY.out hn1 HR2.out HX2.out).mono ?_
  rintro e w1 ⟨v4, rfl, h1, h2, h3⟩
  have H2 : Hid ((appendF fs n1 x2).2 = 0 → DiskR w1 v4 (appendF fs n1 x2).1) := h2
  clear h2
  go_wp2_with fail
  go_ret
  exact ⟨v4, rfl, h1, H2.out, h3⟩

theorem enter_appendTo (args : Array Value) (w : World) : (callFunc 61 args).run Try.prog w = .ok (.enter 61 args) w := by go_simp

set_option maxHeartbeats 400000 in
theorem diskAppend_any (v : Value) (fs : List FileL) (n1 : ByteArray) (b2 : Value) (x2 : List Int) (w : World) (h : DiskR w v fs) (hg : Good fs) (hn1 : n1.size ≤ maxLen) (hr2 : Reads .u8 w b2 x2) (hx2 : ∀ x ∈ x2, 0 ≤ x ∧ x ≤ 255) :
    Calls Try.prog 35 #[.agg #[v], .string n1, b2] w fun e w' => ∃ v', e = .returned (.tuple #[.agg #[v'], .int .i64 (chF fs (appendF fs n1 x2)).2]) ∧ DiskR w' v' (chF fs (appendF fs n1 x2)).1 ∧ Below w.heap.size w w' := by
  have hmf : ∀ (fn : Fn) (first cap : Array Value) (w : World), (Instr.makeFunc fn first cap).run Try.prog w = .ok (.func fn first cap) w := fun _ _ _ _ => rfl
  have HG : Hid (Good fs) := hg
  have HD : Hid (DiskR w v fs) := h
  have HR2 : Hid (Reads .u8 w b2 x2) := hr2
  have HX2 : Hid (∀ x ∈ x2, 0 ≤ x ∧ x ≤ 255) := hx2
  obtain ⟨a, cap, rfl, _, _, _, _⟩ := h
  clear hg
  obtain ⟨ba2, bc2, hbe2, _, _, _, _⟩ := hr2
  subst hbe2
  go_enter Try.func35, Try.ntmps35
  go_wp2_with fail
  refine (changed_two _ fs (appendF fs n1 x2) 61 (.pointer (some ⟨w.heap.size + 1, 0, none⟩)) (.pointer (some ⟨w.heap.size + 2, 0, none⟩)) _ ?_ HG.out appendF_err enter_appendTo ?_).mono ?_
  · exact diskR_four HD.out _ _ _ _
  · intro p B w3 v3 vs h1 h2 h3 h4 h5 h6 h7 h8
    refine appendTo1_any p B (w.heap.size + 1) (w.heap.size + 2) v3 fs vs n1 _ x2 w3 h2 h3 ?_ ?_ h4 h5 h6 h8 hn1 (fun w5 hb5 => HR2.out.below ((below_up w _ _ _ _).trans ((h7.mono (by simp; omega)).trans (hb5.mono (by simp at h1; omega)))) (Nat.le_refl _)) HX2.out
    · exact (h7.cell (p := ⟨w.heap.size + 1, 0, none⟩) (by simp)).trans (cell_mid2 _ _ _ _ _ _)
    · exact (h7.cell (p := ⟨w.heap.size + 2, 0, none⟩) (by simp)).trans (cell_mid3 _ _ _ _ _ _)
  rintro e w1 ⟨v1, rfl, hd1, hb1⟩
  have hb1' : Below (w.heap.size + 4) ((((w.alloc (.cells #[.slice a fs.length cap] 40)).alloc (.cells #[.string n1] 9)).alloc (.cells #[.slice ba2 x2.length bc2] 27)).alloc (.cells #[.slice none 0 0] 40)) w1 := by simpa using hb1
  have hblk : w1.heap[w.heap.size + 3]? = some (.cells #[.slice none 0 0] 40 (0, 0)) := (hb1'.block _ (Nat.lt_succ_self _)).trans (heap_fourth _ _ _ _ _ _)
  have t1 : w1.cell? ⟨w.heap.size + 3, 0, none⟩ = some (.slice none 0 0) := by rw [cell_of_row w1 _ _ _ _ _ hblk]; rfl
  have t2 : w1.frozen? ⟨w.heap.size + 3, 0, none⟩ = false := by simp only [World.frozen?, hblk]; simp
  have B1 : Hid (Below w.heap.size w w1) := below_four hb1'
  have D2 : Hid (∀ y, DiskR (w1.setCell ⟨w.heap.size + 3, 0, none⟩ y) v1 (chF fs (appendF fs n1 x2)).1) := fun y => hd1.setBox hblk
  obtain ⟨a1, c1, rfl, _, _, _, _⟩ := hd1
  clear hb1 hb1' hblk
  generalize hq : chF fs (appendF fs n1 x2) = q at *
  have HQ : Hid (chF fs (appendF fs n1 x2) = q) := hq
  clear hq
  go_wp2_with fail
  exact bodyPost_ret (v := .tuple #[.agg #[.slice a1 q.1.length c1], .int .i64 q.2]) (by simp [results, Try.results35, go_sem, t1]) rfl ⟨_, by rw [HQ.out], by rw [HQ.out]; exact D2.out _, B1.out.setCell (show w.heap.size ≤ w.heap.size + 3 by omega) _⟩
end Go.Proofs.Ytbfkmakfkbdafaa

namespace Go.Proofs.Ytbfkmakfkbdafaa
set_option maxRecDepth 100000
open Go.ChangeShapes Go.WideShapes Go.ChangeAt Go.RowKit

/-- The file that is written. -/
def nxt : ByteArray := ⟨#[110, 101, 120, 116]⟩
theorem nxt_size : nxt.size ≤ maxLen := by decide
/-- What is left of a disk where the file that is written is taken away. -/
def lessF (fs : List FileL) : List FileL := if atF fs nxt < 0 then fs else (removeF fs nxt).1
theorem lessF_none {fs : List FileL} (h : atF fs nxt < 0) : lessF fs = fs := by unfold lessF; rw [if_pos h]
theorem lessF_some {fs : List FileL} (h : ¬ atF fs nxt < 0) : lessF fs = (removeF fs nxt).1 := by unfold lessF; rw [if_neg h]
theorem less_len (fs : List FileL) : (lessF fs).length ≤ fs.length := by
  by_cases h : atF fs nxt < 0
  · rw [lessF_none h]; exact Nat.le_refl _
  · rw [lessF_some h]; unfold removeF; rw [if_neg h]; exact List.length_eraseIdx_le _ _
theorem good_less {fs : List FileL} (h : Good fs) : Good (lessF fs) := by
  by_cases k : atF fs nxt < 0
  · rw [lessF_none k]; exact h
  · rw [lessF_some k]; exact good_remove h
/-- P14.5 -/
def putE (fs : List FileL) (r : List Int × Int) : List FileL × Int :=
  if r.2 = 0 then (if mayB fs = true then chF (lessF fs) (appendF (lessF fs) nxt r.1) else ([], 9)) else ([], r.2)
theorem putE_err {fs : List FileL} {r : List Int × Int} (h : ¬ r.2 = 0) : putE fs r = ([], r.2) := by unfold putE; rw [if_neg h]
theorem putE_no {fs : List FileL} {r : List Int × Int} (h : r.2 = 0) (hm : mayB fs = false) : putE fs r = ([], 9) := by unfold putE; rw [if_pos h, if_neg (by rw [hm]; simp)]
theorem putE_yes {fs : List FileL} {r : List Int × Int} (h : r.2 = 0) (hm : mayB fs = true) : putE fs r = chF (lessF fs) (appendF (lessF fs) nxt r.1) := by unfold putE; rw [if_pos h, if_pos hm]
theorem good_putE {fs : List FileL} {r : List Int × Int} (hg : Good fs) (hr : ∀ x ∈ r.1, 0 ≤ x ∧ x ≤ 255) : Good (putE fs r).1 := by
  by_cases h : r.2 = 0
  · cases hm : mayB fs with
    | false => rw [putE_no h hm]; exact good_nil
    | true => rw [putE_yes h hm]; exact good_ch (good_less hg) (good_append (good_less hg) nxt_size hr)
  · rw [putE_err h]; exact good_nil
theorem chF_remove (fs : List FileL) : ((chF fs (removeF fs nxt)).2 = 0 ∧ mayB fs = true ∧ (chF fs (removeF fs nxt)).1 = lessF fs) ∨ ((chF fs (removeF fs nxt)).2 = 7 ∧ mayB fs = true ∧ lessF fs = fs) ∨ ((chF fs (removeF fs nxt)).2 = 9 ∧ mayB fs = false) := by
  cases hm : mayB fs with
  | false => exact .inr (.inr ⟨by unfold chF; rw [if_neg (by rw [hm]; simp)], rfl⟩)
  | true =>
    have e : chF fs (removeF fs nxt) = removeF fs nxt := by unfold chF; rw [if_pos hm]
    rw [e]
    by_cases h : atF fs nxt < 0
    · exact .inr (.inl ⟨by unfold removeF; rw [if_pos h], rfl, lessF_none h⟩)
    · exact .inl ⟨by unfold removeF; rw [if_neg h], rfl, (lessF_some h).symm⟩
/-- A disk that is answered, and an error. -/
def DskP (w : World) (r : List FileL × Int) (e : Ending) (w' : World) : Prop := ∃ v', e = .returned (.tuple #[.agg #[v'], .int .i64 r.2]) ∧ DiskR w' v' r.1 ∧ Below w.heap.size w w'

set_option maxHeartbeats 2000000 in
set_option maxRecDepth 100000 in
theorem ckPut_any (v : Value) (fs : List FileL) (s : SvS) (vv vm : Value) (w : World) (hD : DiskR w v fs) (hG : Good fs) (hv : MlR w vv s.vals) (hm : MlR w vm s.mail) (hB : ∀ x ∈ s.mail, mlB x) :
    Calls Try.prog 15 #[.agg #[v], .agg #[.int .i64 s.step, .int .i64 s.phase, .bool s.fresh, vv, vm]] w (DskP w (putE fs (encS s))) := by
  have HD : Hid (DiskR w v fs) := hD
  have HG : Hid (Good fs) := hG
  have HV : Hid (MlR w vv s.vals) := hv
  have HM : Hid (MlR w vm s.mail) := hm
  have HEB : Hid (∀ x ∈ (encS s).1, 0 ≤ x ∧ x ≤ 255) := encS_bd s
  obtain ⟨a, cap, rfl, _, _, _, _⟩ := hD
  obtain ⟨va, vc, rfl⟩ := hv.shape
  obtain ⟨ma, mc, rfl⟩ := hm.shape
  obtain ⟨W0, hW0⟩ : ∃ W0, W0 = ((w.alloc (.cells #[.slice a fs.length cap] 40)).alloc (.cells #[.int .i64 s.step, .int .i64 s.phase, .bool s.fresh, .slice va s.vals.length vc, .slice ma s.mail.length mc] 25)).alloc (.cells #[.slice none 0 0] 40) := ⟨_, rfl⟩
  obtain ⟨P0, Q0, Z0, B0, s1, s2⟩ := boxes3 w #[.slice a fs.length cap] #[.int .i64 s.step, .int .i64 s.phase, .bool s.fresh, .slice va s.vals.length vc, .slice ma s.mail.length mc] #[.slice none 0 0] 40 25 40 W0 hW0
  have HK : Hid (∀ X, Below W0.heap.size W0 X → (X.cell? ⟨w.heap.size, 0, none⟩ = some (.slice a fs.length cap) ∧ X.cell? ⟨w.heap.size + 2, 0, none⟩ = some (.slice none 0 0) ∧ X.frozen? ⟨w.heap.size + 2, 0, none⟩ = false) ∧ Below w.heap.size w X ∧ DiskR X (.slice a fs.length cap) fs ∧ BX 40 X (w.heap.size + 2) #[.slice none 0 0]) := fun X hX => by
    have hb := B0.trans (hX.mono (show w.heap.size ≤ W0.heap.size by omega))
    exact ⟨⟨(P0.below hX (by omega)).all1.1, (Z0.below hX (by omega)).all1⟩, hb, HD.out.below hb (Nat.le_refl _), Z0.below hX (by omega)⟩
  have BH : Hid (Below w.heap.size w W0) := B0
  have RV : Hid (MlR W0 (.slice va s.vals.length vc) s.vals) := HV.out.below B0 (Nat.le_refl _)
  have RM : Hid (MlR W0 (.slice ma s.mail.length mc) s.mail) := HM.out.below B0 (Nat.le_refl _)
  have CE : Hid (∀ X, MlR X (.slice va s.vals.length vc) s.vals → MlR X (.slice ma s.mail.length mc) s.mail → Calls Try.prog 7 #[.agg #[.int .i64 s.step, .int .i64 s.phase, .bool s.fresh, .slice va s.vals.length vc, .slice ma s.mail.length mc]] X (BytP2 X (encS s))) := fun X h1 h2 => sEnc_any s _ _ X h1 h2 hB
  obtain ⟨c0, c1, c2, c3, c4⟩ := Q0.all5
  clear P0 Q0 Z0 B0 hG hv hm hB HV HM HD
  generalize encS s = E at *
  obtain ⟨eb, ee⟩ := E
  go_enter Try.func15, Try.ntmps15
  go_upto_region 1 with fail
  rw [← hW0]
  clear hW0
  go_wp2_with fail
  refine (CE.out _ RV.out RM.out).mono ?_
  rintro e w1 ⟨v1, rfl, ho1, hb1⟩
  have A1 : Hid (Below W0.heap.size W0 w1) := hb1
  have hs1 := hb1.size
  obtain ⟨ea, ec, rfl⟩ := own_slice ho1
  have R1 : Hid (Reads .u8 w1 (.slice ea eb.length ec) eb) := reads_own ho1
  obtain ⟨⟨p0, z0, zf⟩, _⟩ := HK.out _ A1.out
  clear c0 c1 c2 c3 c4 hb1 ho1
  have ZX : Hid (∀ X u, Below W0.heap.size W0 X → BX 40 (X.setCell ⟨w.heap.size + 2, 0, none⟩ u) (w.heap.size + 2) #[u] ∧ Below w.heap.size w (X.setCell ⟨w.heap.size + 2, 0, none⟩ u)) := fun X u hX => ⟨(HK.out X hX).2.2.2.set 0 u, (HK.out X hX).2.1.setCell (by simp) u⟩
  by_cases hz : ee = 0
  case neg =>
    have EZ : Hid (putE fs (eb, ee) = ([], ee)) := putE_err hz
    have tz : (ee != 0) = true := by simp [hz]
    go_wp2_with fail
    obtain ⟨rx, rb⟩ := ZX.out w1 (.slice none 0 0) A1.out
    obtain ⟨r0, _⟩ := rx.all1
    refine bodyPost_ret (v := .tuple #[.agg #[.slice none 0 0], .int .i64 ee]) (by simp [results, Try.results15, go_sem, r0]) rfl ?_
    rw [EZ.out]
    exact ⟨_, rfl, diskR_nil _, rb⟩
  case pos =>
    subst hz
    have FQ := chF_remove fs
    go_upto_region 4 with fail
    go_wp2_with fail
    refine (diskRemove_any _ fs nxt _ (HK.out _ A1.out).2.2.1 HG.out nxt_size).mono ?_
    rintro e w2 ⟨v2, rfl, hr2, hb2⟩
    generalize chF fs (removeF fs nxt) = q at *
    obtain ⟨q1, q2⟩ := q
    have A2 : Below W0.heap.size W0 w2 := A1.out.trans (hb2.mono hs1)
    have hs2 := hb2.size
    obtain ⟨a2, k2, e2, _, _, _, _⟩ := id hr2
    subst e2
    have N3 : Hid (Below W0.heap.size W0 (w2.alloc (.cells #[.slice a2 q1.length k2] 40)) ∧ DiskR (w2.alloc (.cells #[.slice a2 q1.length k2] 40)) (.slice a2 q1.length k2) q1 ∧ BX 40 (w2.alloc (.cells #[.slice a2 q1.length k2] 40)) w2.heap.size #[.slice a2 q1.length k2] ∧ Reads .u8 (w2.alloc (.cells #[.slice a2 q1.length k2] 40)) (.slice ea eb.length ec) eb) := ⟨A2.alloc A2.size _, hr2.below (below_alloc _ _) (Nat.le_refl _), BX.new _ _ _, (R1.out.below hb2 (Nat.le_refl _)).below (below_alloc _ _) (by omega)⟩
    clear hr2 hb2 p0 z0 zf A2 hs2
    go_upto_region 5 with fail
    generalize w2.alloc (.cells #[.slice a2 q1.length k2] 40) = w3 at *
    generalize w2.heap.size = b3 at *
    obtain ⟨A3', D3', X3', R3'⟩ := N3.out
    have A3 : Hid (Below W0.heap.size W0 w3) := A3'
    have D3 : Hid (DiskR w3 (.slice a2 q1.length k2) q1) := D3'
    have R3 : Hid (Reads .u8 w3 (.slice ea eb.length ec) eb) := R3'
    have hs3 := A3'.size
    obtain ⟨x0, _⟩ := X3'.all1
    obtain ⟨⟨p0, z0, zf⟩, _⟩ := HK.out _ A3'
    clear A3' D3' X3' R3' N3 R1
    rcases FQ with ⟨rfl, hmy, rfl⟩ | ⟨rfl, hmy, hlf⟩ | ⟨rfl, hmy⟩
    · have EY : Hid (putE fs (eb, 0) = chF (lessF fs) (appendF (lessF fs) nxt eb)) := putE_yes (r := (eb, 0)) rfl hmy
      have HGL : Hid (Good (lessF fs)) := good_less HG.out
      clear hmy
      go_wp2_with fail
      refine (diskAppend_any _ (lessF fs) nxt _ eb _ D3.out HGL.out nxt_size R3.out HEB.out).mono ?_
      rintro e w4 ⟨v4, rfl, hr4, hb4⟩
      have A4 : Hid (Below W0.heap.size W0 w4) := A3.out.trans (hb4.mono hs3)
      have D4 : Hid (∀ y, DiskR (w4.setCell ⟨w.heap.size + 2, 0, none⟩ y) v4 (chF (lessF fs) (appendF (lessF fs) nxt eb)).1) := fun y => hr4.setBox (HK.out _ A4.out).2.2.2
      obtain ⟨a4, k4, rfl, _, _, _, _⟩ := hr4
      clear p0 z0 zf x0
      obtain ⟨⟨p0, z0, zf⟩, _⟩ := HK.out _ A4.out
      clear hb4
      generalize chF (lessF fs) (appendF (lessF fs) nxt eb) = q at *
      go_wp2_with fail
      obtain ⟨rx, rb⟩ := ZX.out w4 (.slice a4 q.1.length k4) A4.out
      obtain ⟨r0, _⟩ := rx.all1
      refine bodyPost_ret (v := .tuple #[.agg #[.slice a4 q.1.length k4], .int .i64 q.2]) (by simp [results, Try.results15, go_sem, r0]) rfl ?_
      rw [EY.out]
      exact ⟨_, rfl, D4.out _, rb⟩
    · have EY : Hid (putE fs (eb, 0) = chF fs (appendF fs nxt eb)) := by show _ = _; rw [putE_yes (r := (eb, 0)) rfl hmy, hlf]
      clear hlf
      clear hmy
      go_wp2_with fail
      refine (diskAppend_any _ fs nxt _ eb _ (HK.out _ A3.out).2.2.1 HG.out nxt_size R3.out HEB.out).mono ?_
      rintro e w4 ⟨v4, rfl, hr4, hb4⟩
      have A4 : Hid (Below W0.heap.size W0 w4) := A3.out.trans (hb4.mono hs3)
      have D4 : Hid (∀ y, DiskR (w4.setCell ⟨w.heap.size + 2, 0, none⟩ y) v4 (chF fs (appendF fs nxt eb)).1) := fun y => hr4.setBox (HK.out _ A4.out).2.2.2
      obtain ⟨a4, k4, rfl, _, _, _, _⟩ := hr4
      clear p0 z0 zf x0
      obtain ⟨⟨p0, z0, zf⟩, _⟩ := HK.out _ A4.out
      clear hb4
      generalize chF fs (appendF fs nxt eb) = q at *
      go_wp2_with fail
      obtain ⟨rx, rb⟩ := ZX.out w4 (.slice a4 q.1.length k4) A4.out
      obtain ⟨r0, _⟩ := rx.all1
      refine bodyPost_ret (v := .tuple #[.agg #[.slice a4 q.1.length k4], .int .i64 q.2]) (by simp [results, Try.results15, go_sem, r0]) rfl ?_
      rw [EY.out]
      exact ⟨_, rfl, D4.out _, rb⟩
    · have EN : Hid (putE fs (eb, 0) = ([], 9)) := putE_no rfl hmy
      clear hmy
      go_wp2_with fail
      obtain ⟨rx, rb⟩ := ZX.out w3 (.slice none 0 0) A3.out
      obtain ⟨r0, _⟩ := rx.all1
      refine bodyPost_ret (v := .tuple #[.agg #[.slice none 0 0], .int .i64 9]) (by simp [results, Try.results15, go_sem, r0]) rfl ?_
      rw [EN.out]
      exact ⟨_, rfl, diskR_nil _, rb⟩
end Go.Proofs.Ytbfkmakfkbdafaa

namespace Go.Proofs.Ytbfkmakfkbdafaa
set_option maxRecDepth 100000
open Go.ChangeShapes Go.WideShapes Go.ChangeAt Go.RowKit Go.Sort

/-- x stands ahead of y. -/
def aheadMB (x y : Ml) : Bool := if x.1 ≠ y.1 then decide (x.1 < y.1) else decide (x.2 < y.2)
theorem aheadM_lt (x y : Ml) : aheadMB x y = ltMb x y := by
  unfold aheadMB ltMb
  by_cases h1 : x.1 ≠ y.1
  · rw [if_pos h1]; congr 1; exact propext ⟨fun h => by omega, fun h => by omega⟩
  · rw [if_neg h1]; congr 1; exact propext ⟨fun h => by omega, fun h => by omega⟩

set_option maxHeartbeats 1000000 in
theorem aheadM_any (x y : Ml) (w : World) : Calls Try.prog 70 #[.agg #[.int .i64 x.1, .int .i64 x.2], .agg #[.int .i64 y.1, .int .i64 y.2]] w fun e w' => e = .returned (.bool (ltMb x y)) ∧ Below w.heap.size w w' := by
  rw [← aheadM_lt]
  obtain ⟨a0, a1⟩ := x
  obtain ⟨b0, b1⟩ := y
  unfold aheadMB
  simp only
  have hb : ∀ o1 o2, Below w.heap.size w ((w.alloc o1).alloc o2) := fun o1 o2 => (below_alloc w o1).alloc (by simp) o2
  by_cases h1 : a0 = b0
  · rw [if_neg (by simpa using h1)]
    have e1 : (a0 != b0) = false := by simpa using h1
    clear h1
    go_enter Try.func70, Try.ntmps70
    go_wp2_with fail
    go_ret
    exact ⟨rfl, hb _ _⟩
  · rw [if_pos h1]
    have e1 : (a0 != b0) = true := by simpa using h1
    clear h1
    go_enter Try.func70, Try.ntmps70
    go_wp2_with fail
    go_ret
    exact ⟨rfl, hb _ _⟩

set_option maxHeartbeats 1000000 in
set_option maxRecDepth 100000 in
theorem isOrdered_any (v : Value) (l : List Ml) (w : World) (h : MlR w v l) :
    Calls Try.prog 51 #[v] w fun e w' => e = .returned (.bool (srtMb l)) ∧ Below w.heap.size w w' := by
  have HR : Hid (MlR w v l) := h
  obtain ⟨a, cap, rfl, hc, hm, _, _⟩ := h
  unfold maxLen at hm
  have HT : Hid (SrtM l → srtMb l = true) := (srtMb_iff l).2
  have HF : Hid (¬ SrtM l → srtMb l = false) := srtMb_false.2
  generalize srtMb l = r at *
  go_enter Try.func51, Try.ntmps51
  go_wp2_with fail
  go_loopw [3] (fun i wr => ∃ k : Nat, k ≤ l.length ∧ i = .int .i64 ((k : Int) + 1) ∧ (∀ i x y, i < k → l[i]? = some x → l[i + 1]? = some y → ¬ ltM y x) ∧ Below w.heap.size w wr) (fun i _ => l.length + 1 - (intOf i).toNat)
  case atStart => exact ⟨0, by omega, rfl, fun i x y hi => by omega, Below.refl _ _⟩
  case round =>
    obtain ⟨k, hk, rfl, hs, hbel⟩ := hrel
    have HS : Hid (∀ i x y, i < k → l[i]? = some x → l[i + 1]? = some y → ¬ ltM y x) := hs
    have HB : Hid (Below w.heap.size w wr) := hbel
    have hsr := hbel.size
    clear hs hbel
    by_cases hlt : k + 1 < l.length
    · obtain ⟨b, off, cap', e1, _, _, lb, hv⟩ := MlR.at (HR.out.below HB.out (Nat.le_refl _)) (by omega)
      injection e1 with e1 _ e3
      subst e1 e3
      obtain ⟨x, hx⟩ := getX hlt
      obtain ⟨y, hy⟩ := getX (show k < l.length by omega)
      obtain ⟨x1, x2⟩ := hv _ _ hx
      obtain ⟨y1, y2⟩ := hv _ _ hy
      have g1 := cell_regrown x1
      have g2 := cell_regrown x2
      have g3 := cell_regrown y1
      have g4 := cell_regrown y2
      have HN : Hid (¬ ltM x y → ∀ i a b, i < k + 1 → l[i]? = some a → l[i + 1]? = some b → ¬ ltM b a) := fun h i a b hi ha hb2 => by
        by_cases e : i = k
        · subst e
          rw [hy] at ha
          rw [hx] at hb2
          injection ha with ha
          injection hb2 with hb2
          subst ha hb2
          exact h
        · exact HS.out i a b (by omega) ha hb2
      have HRR : Hid (ltM x y → r = false) := fun h => HF.out fun h2 => h2 k y x hy hx h
      have EE : ∀ d os, Calls Try.prog 70 #[.agg #[.int .i64 x.1, .int .i64 x.2], .agg #[.int .i64 y.1, .int .i64 y.2]] (grow (redrawn wr d) os) fun e w'' => e = .returned (.bool (ltMb x y)) ∧ ∃ p : Regrown, w'' = grow (redrawn wr p.d) p.os := fun d os => Calls.regrown_of (aheadM_any x y _)
      have HLT : Hid ((ltMb x y = true → ltM x y) ∧ (ltMb x y = false → ¬ ltM x y)) := ⟨ltMb_true.1, ltMb_false.1⟩
      generalize ltMb x y = c at *
      have i1 : (k : Int) + 1 < (l.length : Int) := by omega
      have i2 : (k : Int) < (l.length : Int) := by omega
      have i3 : (0 : Int) ≤ (k : Int) := by omega
      have i4 : (0 : Int) ≤ (k : Int) + 1 := by omega
      have i5 : (k : Int) + 1 - 1 = (k : Int) := by omega
      have i6 : IntKind.i64.wrap (k : Int) = (k : Int) := wrap_id64 (by omega) (by omega)
      have i7 : IntKind.i64.wrap ((k : Int) + 1 + 1) = (k : Int) + 1 + 1 := wrap_id64 (by omega) (by omega)
      have HSX : Hid True := trivial
      clear x1 x2 y1 y2 hx hy HS hv HSX
      go_wp2_with fail
      refine wp_region_quiet_below (by kernel_rfl) (by kernel_rfl) ?_
      repeat (quiet_step (exact EE _ _))
      refine wpQuiet_nil ?_
      intro _ hw'
      obtain ⟨⟨dq, osq⟩, hw''⟩ := hw'
      have HB9 : Hid (Below w.heap.size w (grow (redrawn wr dq) osq)) := HB.out.trans ((below_regrown wr dq osq).mono hsr)
      subst hw''
      generalize grow (redrawn wr dq) osq = W9 at HB9 ⊢
      clear g1 g2 g3 g4 EE
      cases c with
      | true =>
        have HX : Hid (r = false) := HRR.out (HLT.out.1 rfl)
        go_wp2_with fail
        go_ret
        exact ⟨by rw [HX.out]; rfl, HB9.out⟩
      | false =>
        have HX : Hid _ := HN.out (HLT.out.2 rfl)
        go_wp2_with fail
        go_roundw
        case rel => exact ⟨k + 1, by omega, by go_num, HX.out, HB9.out⟩
        case measure => simp [intOf]; omega
    · have HX : Hid (r = true) := HT.out fun i x y h1 h2 => HS.out i x y (by have := (List.getElem?_eq_some_iff.1 h2).1; omega) h1 h2
      have i1 : ¬ (k : Int) + 1 < (l.length : Int) := by omega
      go_wp2_with fail
      go_ret
      exact ⟨by rw [HX.out]; rfl, HB.out⟩

/-- x is put behind A and ahead of B. -/
theorem putM_sorted {A B : List Ml} {x : Ml} (h : InM (A ++ B)) (hB : ∀ y ∈ B, ltM x y) (hA : ∀ z, A.getLast? = some z → ¬ ltM x z) : InM (A ++ x :: B) := by
  unfold InM at *
  rw [List.pairwise_append] at h ⊢
  obtain ⟨h1, h2, h3⟩ := h
  have hAx : ∀ a ∈ A, leM a x = true := by
    intro a ha
    rw [leM_iff]
    rcases List.eq_nil_or_concat A with rfl | ⟨A', z, rfl⟩
    · simp at ha
    · have hz : ¬ ltM x z := hA z (by simp)
      simp only [List.concat_eq_append] at ha h1
      rw [List.mem_append] at ha
      rcases ha with ha | ha
      · have := (List.pairwise_append.1 h1).2.2 a ha z (by simp)
        rw [leM_iff] at this
        unfold ltM at *; omega
      · simp at ha; subst ha; exact hz
  refine ⟨h1, ?_, ?_⟩
  · rw [List.pairwise_cons]
    exact ⟨fun y hy => by have := hB y hy; rw [leM_iff]; unfold ltM at *; omega, h2⟩
  · intro a ha y hy
    rcases List.mem_cons.1 hy with rfl | hy
    · exact hAx a ha
    · exact h3 a ha y hy
theorem putM_perm {A B s l : List Ml} {x : Ml} (h : A ++ B = s) (hp : s.Perm l) : (A ++ x :: B).Perm (l ++ [x]) := by
  subst h
  exact (List.perm_middle.trans (List.Perm.cons x hp)).trans (List.perm_append_singleton x l).symm
end Go.Proofs.Ytbfkmakfkbdafaa

namespace Go.Proofs.Ytbfkmakfkbdafaa
set_option maxRecDepth 100000
open Go.ChangeShapes Go.WideShapes Go.ChangeAt Go.RowKit

theorem valS_in (x : Ml) : valS x = (inB x.1 (-1) 4398046511104 && inB x.2 (-1) 199) := by
  rw [Bool.eq_iff_iff, valS_iff]
  unfold inB
  simp only [Bool.and_eq_true, decide_eq_true_eq]
  omega
set_option maxHeartbeats 1000000 in
theorem topD_any (w : World) : Calls Try.prog 69 #[.int .i64 1] w fun e w' => e = .returned (.int .i64 4398046511104) ∧ w' = w := by
  go_enter Try.func69, Try.ntmps69
  go_wp2_with fail
  go_ret
  exact ⟨rfl, rfl⟩
section
open Go.Sort
set_option maxHeartbeats 1000000 in
set_option maxRecDepth 100000 in
theorem valMayS_any (x : Ml) (w : World) :
    Calls Try.prog 49 #[.int .i64 1, .agg #[.int .i64 x.1, .int .i64 x.2]] w fun e w' => e = .returned (.bool (valS x)) ∧ RowKit.Below w.heap.size w w' := by
  have hF := topD_any
  rw [valS_in]
  obtain ⟨W, hW⟩ : ∃ W, w.alloc (.cells #[.int .i64 x.1, .int .i64 x.2] 52) = W := ⟨_, rfl⟩
  have hX : BX 52 W w.heap.size #[.int .i64 x.1, .int .i64 x.2] := by rw [← hW]; exact BX.new _ _ _
  have HB : Hid (RowKit.Below w.heap.size w W) := by show RowKit.Below _ _ _; rw [← hW]; exact below_alloc _ _
  obtain ⟨c0, c1, _⟩ := hX.all2
  have g0 := cell_regrown c0
  have g1 := cell_regrown c1
  have EG : ∀ d os, Calls Try.prog 69 #[.int .i64 1] (grow (redrawn W d) os) fun e w'' => e = .returned (.int .i64 4398046511104) ∧ ∃ p : Regrown, w'' = grow (redrawn W p.d) p.os := fun d os => Calls.regrown_of ((hF _).mono (fun e w' h => ⟨h.1, by rw [h.2]; exact Below.refl _ _⟩))
  have EW : ∀ v a b d os, Calls Try.prog 48 #[.int .i64 v, .int .i64 a, .int .i64 b] (grow (redrawn W d) os) fun e w'' => e = .returned (.bool (inB v a b)) ∧ ∃ p : Regrown, w'' = grow (redrawn W p.d) p.os := fun v a b d os => Calls.regrown_of ((in_any v a b _).mono (fun e w' h => ⟨h.1, by rw [h.2]; exact Below.refl _ _⟩))
  clear hF hX c0 c1
  cases h1 : inB x.1 (-1) 4398046511104
  · go_enter Try.func49, Try.ntmps49
    go_upto_region 1 with fail
    refine wp_region_quiet_below (by kernel_rfl) (by kernel_rfl) ?_
    repeat (quiet_step (first | (go_at_call 48; exact EW _ _ _ _ _) | exact EG _ _))
    refine wpQuiet_nil ?_
    intro _ hw'
    obtain ⟨⟨dq, osq⟩, hw''⟩ := hw'
    have HB9 : Hid (RowKit.Below W.heap.size W (grow (redrawn W dq) osq)) := below_regrown W dq osq
    subst hw''
    generalize grow (redrawn W dq) osq = W9 at HB9 ⊢
    have HC : Hid (RowKit.Below w.heap.size w W9) := HB.out.trans (HB9.out.mono HB.out.size)
    clear g0 g1 EG EW
    go_wp2_with fail
    go_ret
    exact ⟨rfl, HC.out⟩
  · cases h2 : inB x.2 (-1) 199
    all_goals go_enter Try.func49, Try.ntmps49
    all_goals go_upto_region 1 with fail
    all_goals refine wp_region_quiet_below (by kernel_rfl) (by kernel_rfl) ?_
    all_goals repeat (quiet_step (first | (go_at_call 48; exact EW _ _ _ _ _) | exact EG _ _))
    all_goals refine wpQuiet_nil ?_
    all_goals intro _ hw'
    all_goals obtain ⟨⟨dq, osq⟩, hw''⟩ := hw'
    all_goals have HB9 : Hid (RowKit.Below W.heap.size W (grow (redrawn W dq) osq)) := below_regrown W dq osq
    all_goals subst hw''
    all_goals generalize grow (redrawn W dq) osq = W9 at HB9 ⊢
    all_goals have HC : Hid (RowKit.Below w.heap.size w W9) := HB.out.trans (HB9.out.mono HB.out.size)
    all_goals clear g0 g1 EG EW
    all_goals go_wp2_with fail
    all_goals go_ret
    all_goals exact ⟨rfl, HC.out⟩

end
theorem svMay_len {s : SvS} (h : ¬ (s.vals.length ≤ 200 ∧ s.mail.length ≤ 5000)) : svMay s = false := by rw [Bool.eq_false_iff]; intro g; exact h ⟨(svMay_iff.1 g).2.1, (svMay_iff.1 g).2.2.2.1⟩

set_option maxHeartbeats 4000000 in
set_option maxRecDepth 100000 in
theorem savedMay_any (s : SvS) (vv vm : Value) (w : World) (hv : MlR w vv s.vals) (hm : MlR w vm s.mail) :
    Calls Try.prog 23 #[.agg #[.int .i64 s.step, .int .i64 s.phase, .bool s.fresh, vv, vm]] w fun e w' => e = .returned (.bool (svMay s)) ∧ Below w.heap.size w w' := by
  have HV : Hid (MlR w vv s.vals) := hv
  have HM : Hid (MlR w vm s.mail) := hm
  obtain ⟨va, vc, rfl, hvc, hvm, _, _⟩ := hv
  obtain ⟨ma, mc, rfl, hmc, hmm, _, _⟩ := hm
  unfold maxLen at hvm hmm
  have H1 : Hid (¬ (0 ≤ s.step ∧ s.step ≤ 100000 ∧ (s.phase = 0 ∨ s.phase = 1)) ∨ ¬ (s.vals.length ≤ 200 ∧ s.mail.length ≤ 5000) → svMay s = false) := fun h => by
    rcases h with h | h
    · exact svMay_head h
    · exact svMay_len h
  have H2 : Hid (valA s.vals = false → svMay s = false) := fun h => svMay_vals (fun g => by rw [h] at g; cases g.2)
  have H3 : Hid (mayA s.mail = false → svMay s = false) := fun h => by
    rw [Bool.eq_false_iff]
    intro g
    rw [(svMay_iff.1 g).2.2.2.2.2] at h
    cases h
  have H4 : Hid ((0 ≤ s.step ∧ s.step ≤ 100000 ∧ (s.phase = 0 ∨ s.phase = 1)) → (s.vals.length ≤ 200 ∧ s.mail.length ≤ 5000) → valA s.vals = true → mayA s.mail = true → svMay s = srtMb s.mail) := fun h1 h2 h3 h4 => by
    rw [Bool.eq_iff_iff, svMay_iff]
    exact ⟨fun h => h.2.2.2.2.1, fun h => ⟨h1, h2.1, h3, h2.2, h, h4⟩⟩
  have CO : Hid (∀ X, MlR X (.slice ma s.mail.length mc) s.mail → Calls Try.prog 51 #[.slice ma s.mail.length mc] X fun e w' => e = .returned (.bool (srtMb s.mail)) ∧ Below X.heap.size X w') := fun X hX => isOrdered_any _ s.mail X hX
  generalize svMay s = r at *
  generalize srtMb s.mail = bs at *
  obtain ⟨st, ph, fr, vs, ms⟩ := s
  simp only at HV HM H1 H2 H3 H4 CO hvc hvm hmc hmm ⊢
  have X0 : BX 25 (w.alloc (.cells #[.int .i64 st, .int .i64 ph, .bool fr, .slice va vs.length vc, .slice ma ms.length mc] 25)) w.heap.size #[.int .i64 st, .int .i64 ph, .bool fr, .slice va vs.length vc, .slice ma ms.length mc] := BX.new _ _ _
  have B0 : Below w.heap.size w (w.alloc (.cells #[.int .i64 st, .int .i64 ph, .bool fr, .slice va vs.length vc, .slice ma ms.length mc] 25)) := below_alloc _ _
  go_enter Try.func23, Try.ntmps23
  go_upto_region 1 with fail
  generalize w.alloc (.cells #[.int .i64 st, .int .i64 ph, .bool fr, .slice va vs.length vc, .slice ma ms.length mc] 25) = W0 at *
  have HK : Hid (∀ X, Below W0.heap.size W0 X → BX 25 X w.heap.size #[.int .i64 st, .int .i64 ph, .bool fr, .slice va vs.length vc, .slice ma ms.length mc] ∧ Below w.heap.size w X ∧ MlR X (.slice va vs.length vc) vs ∧ MlR X (.slice ma ms.length mc) ms) := fun X hX => ⟨X0.below hX X0.lt, B0.trans (hX.mono B0.size), HV.out.below (B0.trans (hX.mono B0.size)) (Nat.le_refl _), HM.out.below (B0.trans (hX.mono B0.size)) (Nat.le_refl _)⟩
  have A0 : Hid (Below W0.heap.size W0 W0) := Below.refl _ _
  have BW0 : Hid (Below w.heap.size w W0) := B0
  obtain ⟨c0, c1, c2, c3, c4⟩ := X0.all5
  clear X0 B0 HV HM
  obtain ⟨b1, hb1⟩ : ∃ b : Bool, b = decide (¬ (0 ≤ st ∧ st ≤ 100000 ∧ (ph = 0 ∨ ph = 1)) ∨ ¬ (vs.length ≤ 200 ∧ ms.length ≤ 5000)) := ⟨_, rfl⟩
  have HB1 : Hid (b1 = decide (¬ (0 ≤ st ∧ st ≤ 100000 ∧ (ph = 0 ∨ ph = 1)) ∨ ¬ (vs.length ≤ 200 ∧ ms.length ≤ 5000))) := hb1
  clear hb1
  go_cut [26] from 26 to 26 (fun t wx => t = .bool b1 ∧ W0 = wx)
  case first =>
    clear H1 H2 H3 H4 CO HK
    have CI : ∀ n lo hi X, Calls Try.prog 48 #[.int .i64 n, .int .i64 lo, .int .i64 hi] X fun e w' => e = .returned (.bool (inB n lo hi)) ∧ w' = X := fun n lo hi X => in_any n lo hi X
    have HCI : Hid (∀ n lo hi X, Calls Try.prog 48 #[.int .i64 n, .int .i64 lo, .int .i64 hi] X fun e w' => e = .returned (.bool (inB n lo hi)) ∧ X = w') := fun n lo hi X => (CI n lo hi X).mono fun e w' h => ⟨h.1, h.2.symm⟩
    clear CI
    by_cases h1 : 0 ≤ st ∧ st ≤ 100000
    · have i1 : inB st 0 100000 = true := in_yes h1
      by_cases h2 : 0 ≤ ph ∧ ph ≤ 1
      · have i2 : inB ph 0 1 = true := in_yes h2
        by_cases h3 : 200 < vs.length
        · have e : Hid (Value.bool true = .bool b1) := by show _ = _; rw [HB1.out, decide_eq_true (by omega)]
          have t3 : decide ((vs.length : Int) > 200) = true := decide_eq_true (by omega)
          have t3' : (200 : Int) < (vs.length : Int) := by omega
          clear HB1 h1 h2
          go_wp2_with fail
          refine (HCI.out _ _ _ _).mono ?_
          rw [i1]
          rintro e1 w1 ⟨rfl, rfl⟩
          go_wp2_with fail
          refine (HCI.out _ _ _ _).mono ?_
          rw [i2]
          rintro e1 w1 ⟨rfl, rfl⟩
          go_wp2_with fail
          go_meet
          case rel => exact ⟨e.out, rfl⟩
        · have t3 : decide ((vs.length : Int) > 200) = false := decide_eq_false (by omega)
          have t3' : ¬ (200 : Int) < (vs.length : Int) := by omega
          by_cases h4 : 5000 < ms.length
          · have e : Hid (Value.bool true = .bool b1) := by show _ = _; rw [HB1.out, decide_eq_true (by omega)]
            have t4 : decide ((ms.length : Int) > 5000) = true := decide_eq_true (by omega)
            have t4' : (5000 : Int) < (ms.length : Int) := by omega
            clear HB1 h1 h2
            go_wp2_with fail
            refine (HCI.out _ _ _ _).mono ?_
            rw [i1]
            rintro e1 w1 ⟨rfl, rfl⟩
            go_wp2_with fail
            refine (HCI.out _ _ _ _).mono ?_
            rw [i2]
            rintro e1 w1 ⟨rfl, rfl⟩
            go_wp2_with fail
            go_meet
            case rel => exact ⟨e.out, rfl⟩
          · have e : Hid (Value.bool false = .bool b1) := by show _ = _; rw [HB1.out, decide_eq_false (by omega)]
            have t4 : decide ((ms.length : Int) > 5000) = false := decide_eq_false (by omega)
            have t4' : ¬ (5000 : Int) < (ms.length : Int) := by omega
            clear HB1 h1 h2
            go_wp2_with fail
            refine (HCI.out _ _ _ _).mono ?_
            rw [i1]
            rintro e1 w1 ⟨rfl, rfl⟩
            go_wp2_with fail
            refine (HCI.out _ _ _ _).mono ?_
            rw [i2]
            rintro e1 w1 ⟨rfl, rfl⟩
            go_wp2_with fail
            go_meet
            case rel => exact ⟨e.out, rfl⟩
      · have i2 : inB ph 0 1 = false := in_no h2
        have e : Hid (Value.bool true = .bool b1) := by show _ = _; rw [HB1.out, decide_eq_true (by omega)]
        clear HB1 h1 h2
        go_wp2_with fail
        refine (HCI.out _ _ _ _).mono ?_
        rw [i1]
        rintro e1 w1 ⟨rfl, rfl⟩
        go_wp2_with fail
        refine (HCI.out _ _ _ _).mono ?_
        rw [i2]
        rintro e1 w1 ⟨rfl, rfl⟩
        go_wp2_with fail
        go_meet
        case rel => exact ⟨e.out, rfl⟩
    · have i1 : inB st 0 100000 = false := in_no h1
      have e : Hid (Value.bool true = .bool b1) := by show _ = _; rw [HB1.out, decide_eq_true (by omega)]
      clear HB1 h1
      go_wp2_with fail
      refine (HCI.out _ _ _ _).mono ?_
      rw [i1]
      rintro e1 w1 ⟨rfl, rfl⟩
      go_wp2_with fail
      go_meet
      case rel => exact ⟨e.out, rfl⟩
  case rest =>
  obtain ⟨rfl, rfl⟩ := hcut
  cases b1
  · have HH : Hid ((0 ≤ st ∧ st ≤ 100000 ∧ (ph = 0 ∨ ph = 1)) ∧ vs.length ≤ 200 ∧ ms.length ≤ 5000) := by
      have h := of_decide_eq_false HB1.out.symm
      constructor
      · exact Classical.not_not.1 fun g => h (.inl g)
      · exact Classical.not_not.1 fun g => h (.inr g)
    clear HB1 H1
    go_wp2_with fail
    go_loopw [3] (fun i wr => ∃ k : Nat, k ≤ vs.length ∧ i = .int .i64 k ∧ valA (vs.take k) = true ∧ Below W0.heap.size W0 wr) (fun i _ => vs.length - (intOf i).toNat)
    case atStart => exact ⟨0, by omega, rfl, rfl, A0.out⟩
    case round =>
      clear c0 c1 c2 c3 c4
      obtain ⟨k, hk, rfl, hno, hbel⟩ := hrel
      have HNO : Hid (valA (vs.take k) = true) := hno
      have AB : Hid (Below W0.heap.size W0 wr) := hbel
      have hsr := hbel.size
      obtain ⟨Q1, bw1, MV, _⟩ := HK.out _ hbel
      have BW1 : Hid (Below w.heap.size w wr) := bw1
      obtain ⟨c0, c1, c2, c3, c4⟩ := Q1.all5
      clear hno hbel bw1 Q1
      by_cases hlt : k < vs.length
      · obtain ⟨b, off, cap', e1, _, _, lt, hv⟩ := MlR.at MV (by omega)
        injection e1 with e1 e2 e3
        subst e1 e3
        clear e2
        obtain ⟨x, hx⟩ := getX hlt
        obtain ⟨d1, d2⟩ := hv k x hx
        have HX : Hid (vs[k]? = some x) := hx
        have p0 : (0 : Int) ≤ (k : Int) := by omega
        have p1 : (k : Int) < (vs.length : Int) := by omega
        clear hv hx MV
        cases ho : valS x
        · have e := H2.out (valA_hit HX.out ho)
          subst e
          have CV : Hid (∀ X, Calls Try.prog 49 #[.int .i64 1, .agg #[.int .i64 x.1, .int .i64 x.2]] X fun e w' => e = .returned (.bool false) ∧ Below X.heap.size X w') := fun X => by have := valMayS_any x X; rw [ho] at this; exact this
          clear ho H2 H3 H4 CO
          go_wp2_with fail
          refine (CV.out _).mono ?_
          rintro e w2 ⟨rfl, hb2⟩
          have B2 : Hid (Below w.heap.size w w2) := BW1.out.trans (hb2.mono BW1.out.size)
          clear hb2
          go_wp2_with fail
          go_ret
          exact ⟨rfl, B2.out⟩
        · have HN2 : Hid (valA (vs.take (k + 1)) = true) := valA_cut HX.out HNO.out ho
          have CV : Hid (∀ X, Calls Try.prog 49 #[.int .i64 1, .agg #[.int .i64 x.1, .int .i64 x.2]] X fun e w' => e = .returned (.bool true) ∧ Below X.heap.size X w') := fun X => by have := valMayS_any x X; rw [ho] at this; exact this
          clear ho
          go_wp2_with fail
          refine (CV.out _).mono ?_
          rintro e w2 ⟨rfl, hb2⟩
          have A2 : Hid (Below W0.heap.size W0 w2) := AB.out.trans (hb2.mono hsr)
          clear hb2
          go_wp2_with fail
          go_roundw
          case rel => exact ⟨k + 1, by omega, by go_num, HN2.out, A2.out⟩
          case measure => simp [intOf]; omega
      · have ek : vs.take k = vs := List.take_of_length_le (by omega)
        have HVA : Hid (valA vs = true) := by have := HNO.out; rwa [ek] at this
        obtain ⟨V1, rfl⟩ : ∃ V, V = wr := ⟨wr, rfl⟩
        clear ek HNO H2 MV
        go_wp2_with fail
        go_loopw [4] (fun i wr => ∃ k : Nat, k ≤ ms.length ∧ i = .int .i64 k ∧ mayA (ms.take k) = true ∧ Below W0.heap.size W0 wr) (fun i _ => ms.length - (intOf i).toNat)
        case atStart => exact ⟨0, by omega, rfl, rfl, AB.out⟩
        case round =>
          clear c0 c1 c2 c3 c4 AB BW1
          obtain ⟨k, hk, rfl, hno, hbel⟩ := hrel
          have HNO : Hid (mayA (ms.take k) = true) := hno
          have AB : Hid (Below W0.heap.size W0 wr) := hbel
          have hsr := hbel.size
          obtain ⟨Q1, bw1, _, MM⟩ := HK.out _ hbel
          have BW1 : Hid (Below w.heap.size w wr) := bw1
          have RM : Hid (MlR wr (.slice ma ms.length mc) ms) := MM
          obtain ⟨c0, c1, c2, c3, c4⟩ := Q1.all5
          clear hno hbel bw1 Q1
          by_cases hlt : k < ms.length
          · obtain ⟨b, off, cap', e1, _, _, lt, hv⟩ := MlR.at MM (by omega)
            injection e1 with e1 e2 e3
            subst e1 e3
            clear e2
            obtain ⟨x, hx⟩ := getX hlt
            obtain ⟨d1, d2⟩ := hv k x hx
            have HX : Hid (ms[k]? = some x) := hx
            have p0 : (0 : Int) ≤ (k : Int) := by omega
            have p1 : (k : Int) < (ms.length : Int) := by omega
            clear hv hx MM
            cases ho : mayM x
            · have e := H3.out (mayA_hit HX.out ho)
              subst e
              have CV : Hid (∀ X, Calls Try.prog 50 #[.agg #[.int .i64 x.1, .int .i64 x.2]] X fun e w' => e = .returned (.bool false) ∧ Below X.heap.size X w') := fun X => by have := mailMay_any x X; rw [ho] at this; exact this
              clear ho H3 H4 CO
              go_wp2_with fail
              refine (CV.out _).mono ?_
              rintro e w2 ⟨rfl, hb2⟩
              have B2 : Hid (Below w.heap.size w w2) := BW1.out.trans (hb2.mono BW1.out.size)
              clear hb2
              go_wp2_with fail
              go_ret
              exact ⟨rfl, B2.out⟩
            · have HN2 : Hid (mayA (ms.take (k + 1)) = true) := mayA_cut HX.out HNO.out ho
              have CV : Hid (∀ X, Calls Try.prog 50 #[.agg #[.int .i64 x.1, .int .i64 x.2]] X fun e w' => e = .returned (.bool true) ∧ Below X.heap.size X w') := fun X => by have := mailMay_any x X; rw [ho] at this; exact this
              clear ho
              go_wp2_with fail
              refine (CV.out _).mono ?_
              rintro e w2 ⟨rfl, hb2⟩
              have A2 : Hid (Below W0.heap.size W0 w2) := AB.out.trans (hb2.mono hsr)
              clear hb2
              go_wp2_with fail
              go_roundw
              case rel => exact ⟨k + 1, by omega, by go_num, HN2.out, A2.out⟩
              case measure => simp [intOf]; omega
          · have ek : ms.take k = ms := List.take_of_length_le (by omega)
            have HR : Hid (r = bs) := H4.out HH.out.1 HH.out.2 HVA.out (by have := HNO.out; rwa [ek] at this)
            clear ek HNO H3 H4 MM
            go_wp2_with fail
            refine (CO.out _ RM.out).mono ?_
            rintro e w2 ⟨rfl, hb2⟩
            have B2 : Hid (Below w.heap.size w w2) := BW1.out.trans (hb2.mono BW1.out.size)
            clear hb2
            go_wp2_with fail
            go_ret
            exact ⟨ret_bool HR.out.symm, B2.out⟩
  · have e := H1.out (of_decide_eq_true HB1.out.symm)
    subst e
    clear HB1 H1 H2 H3 H4 CO
    go_wp2_with fail
    go_ret
    exact ⟨rfl, BW0.out⟩
end Go.Proofs.Ytbfkmakfkbdafaa

namespace Go.Proofs.Ytbfkmakfkbdafaa
set_option maxRecDepth 100000
open Go.ChangeShapes Go.WideShapes Go.ChangeAt Go.RowKit

set_option maxHeartbeats 400000 in
set_option maxRecDepth 100000 in
theorem summed_row (b off cap : Nat) (xs : List Int) (w : World) (hm : xs.length ≤ maxLen) (hx : ∀ x ∈ xs, 0 ≤ x ∧ x ≤ 255)
    (hcell : ∀ i, i < xs.length → w.cell? ⟨b, off + i, none⟩ = some (.int .u8 (xs.getD i 0))) :
    Calls Try.prog 52 #[.slice (some ⟨b, off, none⟩) xs.length cap] w fun e w' => e = .returned (.int .u32 (crc xs)) ∧ w' = w := by
  unfold maxLen at hm
  have HC : Hid (∀ i, i < xs.length → w.cell? ⟨b, off + i, none⟩ = some (.int .u8 (xs.getD i 0))) := hcell
  have HX : Hid (∀ x ∈ xs, 0 ≤ x ∧ x ≤ 255) := hx
  clear hcell hx
  go_enter Try.func52, Try.ntmps52
  go_wp2_with fail
  go_loop [3, 4] (fun n i => ∃ (k : Nat), k ≤ xs.length ∧ i = .int .i64 k ∧ n = .int .u32 (runR 4294967295 (xs.take k))) (fun _ i => xs.length - (intOf i).toNat)
  case atStart => exact ⟨0, by omega, rfl, rfl⟩
  case round =>
    obtain ⟨k, hk, rfl, rfl⟩ := hrel
    have hr := runR_lt (xs.take k) 4294967295 (by omega) (fun x hx => HX.out x (List.mem_of_mem_take hx))
    by_cases hlt : k < xs.length
    · have hck := HC.out k hlt
      have hxb := HX.out (xs.getD k 0) (by rw [List.getD_eq_getElem?_getD, List.getElem?_eq_getElem hlt]; exact List.getElem_mem hlt)
      have HN : Hid (runR 4294967295 (xs.take (k + 1)) = eight (runR 4294967295 (xs.take k) ^^^ (xs.getD k 0).toNat)) := by
        show _ = _
        rw [take_snocI hlt, runR_snoc]
      generalize runR 4294967295 (xs.take k) = r at *
      obtain ⟨x, hxe⟩ : ∃ x : Nat, xs.getD k 0 = (x : Int) := ⟨_, (Int.toNat_of_nonneg hxb.1).symm⟩
      rw [hxe] at hck hxb HN
      clear hxe
      have h8 : x < 256 := by omega
      clear hxb
      go_wp2_with fail
      go_loop [3, 5, 6] (fun s c j => ∃ (m S C : Nat), m ≤ 8 ∧ j = .int .i64 m ∧ s = .int .u32 S ∧ c = .int .u32 C ∧ S < 4294967296 ∧ C = x / 2 ^ m ∧ S ^^^ C = shN m (r ^^^ x)) (fun _ _ j => 8 - (intOf j).toNat)
      case atStart => exact ⟨0, r, x, by omega, rfl, rfl, rfl, hr, by simp, rfl⟩
      case round =>
        obtain ⟨m, S, C, hm8, rfl, rfl, rfl, hS, hC, hi⟩ := hrel
        have hC8 : C < 256 := by rw [hC]; exact Nat.lt_of_le_of_lt (Nat.div_le_self _ _) h8
        have HI : Hid (S ^^^ C = shN m (r ^^^ x)) := hi
        have HCC : Hid (C = x / 2 ^ m) := hC
        have HC2 : Hid (C / 2 = x / 2 ^ (m + 1)) := by show _ = _; rw [hC, Nat.div_div_eq_div_mul, Nat.pow_succ]
        clear hi hC
        have hxp := xorP (S / 2) (by omega)
        have hxp' : bits .xor .u32 ((S : Int) / 2) 3988292384 = ((S / 2 ^^^ 3988292384 : Nat) : Int) := hxp
        have HA := bit_apart S C
        have HB : Hid (sh (S ^^^ C) = (if (S + C) % 2 = 1 then S / 2 ^^^ 3988292384 else S / 2) ^^^ C / 2) := HA
        clear HA hxp
        by_cases hm1 : m < 8
        · by_cases hodd : (S + C) % 2 = 1
          · have HB2 : Hid (sh (S ^^^ C) = (S / 2 ^^^ 3988292384) ^^^ C / 2) := by show _ = _; rw [HB.out, if_pos hodd]
            have hlt2 := xor_lt (show S / 2 < 4294967296 by omega) (show 3988292384 < 4294967296 by omega)
            have ho : (IntKind.u32.wrap ((S : Int) + (C : Int)) % 2 == 1) = true := by rw [IntKind.wrap_u32']; simp; omega
            clear HB
            generalize S / 2 ^^^ 3988292384 = q at *
            go_wp2_with fail
            go_round
            case rel => exact ⟨m + 1, q, C / 2, by omega, by go_num, rfl, by simp, hlt2, HC2.out, by show _ = sh (shN m (r ^^^ x)); rw [← HI.out, HB2.out]⟩
            case measure => simp [intOf]; omega
          · have HB2 : Hid (sh (S ^^^ C) = S / 2 ^^^ C / 2) := by show _ = _; rw [HB.out, if_neg hodd]
            have ho : (IntKind.u32.wrap ((S : Int) + (C : Int)) % 2 == 1) = false := by rw [IntKind.wrap_u32']; simp; omega
            clear HB
            go_wp2_with fail
            go_round
            case rel => exact ⟨m + 1, S / 2, C / 2, by omega, by go_num, by simp, by simp, by omega, HC2.out, by show _ = sh (shN m (r ^^^ x)); rw [← HI.out, HB2.out]⟩
            case measure => simp [intOf]; omega
        · have HF : Hid (S = eight (r ^^^ x)) := by
            show _ = shN 8 (r ^^^ x)
            have e : m = 8 := by omega
            subst e
            have hc0 : C = 0 := by rw [HCC.out]; omega
            rw [← HI.out, hc0, Nat.xor_zero]
          clear HB
          go_wp2_with fail
          go_round
          case rel => exact ⟨k + 1, by omega, by go_num, by rw [HN.out, HF.out]; rfl⟩
          case measure => simp [intOf]; omega
    · have HQ : Hid (crc xs = 4294967295 - runR 4294967295 (xs.take k)) := by
        show _ = _
        rw [← ones_sub hr, List.take_of_length_le (by omega)]; rfl
      generalize runR 4294967295 (xs.take k) = r at *
      have hx32 : IntKind.u32.wrap (4294967295 - (r : Int)) = ((4294967295 - r : Nat) : Int) := by rw [IntKind.wrap_u32']; omega
      generalize 4294967295 - r = q at *
      go_wp2_with fail
      go_ret
      exact ⟨by rw [HQ.out]; rfl, rfl⟩
set_option maxRecDepth 100000 in
theorem summed_empty (a : Option Addr) (cap : Nat) (w : World) :
    Calls Try.prog 52 #[.slice a 0 cap] w fun e w' => e = .returned (.int .u32 0) ∧ w' = w := by
  go_enter Try.func52, Try.ntmps52
  go_wp2_with fail
  refine wp_loop_rounds 1 ?_
  rw [rounds_succ]
  go_wp2
  go_ret
  exact ⟨rfl, rfl⟩

theorem summed_any (v : Value) (xs : List Int) (w : World) (h : Reads .u8 w v xs) (hx : ∀ x ∈ xs, 0 ≤ x ∧ x ≤ 255) :
    Calls Try.prog 52 #[v] w fun e w' => e = .returned (.int .u32 (crc xs)) ∧ w' = w := by
  by_cases hn : 0 < xs.length
  · obtain ⟨b, off, cap, rfl, hc, hm, _, hcell⟩ := h.plain hn
    exact summed_row b off cap xs w (Nat.le_trans hc hm) hx hcell
  · have : xs = [] := List.eq_nil_of_length_eq_zero (by omega)
    subst this
    obtain ⟨a, cap, rfl, _, _⟩ := h.empty
    refine (summed_empty a cap w).mono ?_
    rintro e w' ⟨rfl, rfl⟩
    exact ⟨rfl, rfl⟩
end Go.Proofs.Ytbfkmakfkbdafaa

namespace Go.Proofs.Ytbfkmakfkbdafaa
set_option maxRecDepth 100000
open Go.ChangeShapes Go.WideShapes Go.ChangeAt Go.RowKit

set_option maxHeartbeats 800000 in
theorem packed_any (f : Nat) : ∀ (n : Int) (w : World), 0 ≤ n → n < 128 ^ (f + 1) → n ≤ 18446744073709551615 →
    Calls Try.prog 24 #[.int .u64 n] w fun e w' =>
      ∃ v', e = .returned v' ∧ w'.ownsRow w.heap.size 5 1 v' (put n).length ((put n).map (Value.int .u8)) ∧ Below w.heap.size w w' := by
  obtain ⟨i0, hi, hz0, hz1, hz2⟩ := info_parts Try.info5
  induction f with
  | zero =>
    intro n w h0 hf h1
    have hn : n < 128 := by simpa using hf
    clear hf
    go_enter Try.func24, Try.ntmps24
    go_wp2_with fail
    go_ret
    refine ⟨_, rfl, ?_, ?_⟩
    · rw [put_small hn]; exact own_new w _ (Nat.le_refl _) n
    · exact (Below.refl _ _).alloc (Nat.le_refl _) _
  | succ f ih =>
    intro n w h0 hf h1
    by_cases hn : n < 128
    · clear hf ih
      go_enter Try.func24, Try.ntmps24
      go_wp2_with fail
      go_ret
      refine ⟨_, rfl, ?_, ?_⟩
      · rw [put_small hn]; exact own_new w _ (Nat.le_refl _) n
      · exact (Below.refl _ _).alloc (Nat.le_refl _) _
    · have hd : n / 128 < 128 ^ (f + 1) := div128_lt (by rw [p128] at hf; exact hf)
      have IH := ih (n / 128) (w.alloc (.cells #[.int .u8 (n % 128 + 128)] 5)) (by omega) hd (by omega)
      have HI : Hid (Calls Try.prog 24 #[.int .u64 (n / 128)] (w.alloc (.cells #[.int .u8 (n % 128 + 128)] 5)) _) := IH
      clear IH ih hf hd
      go_enter Try.func24, Try.ntmps24
      go_wp2_with fail
      refine HI.out.mono ?_
      rintro e w1 ⟨v1, rfl, hown1, hbel1⟩
      have hl := put_len (n / 128)
      have hb1 : Below w.heap.size w w1 := ((Below.refl _ _).alloc (Nat.le_refl _) _).trans (hbel1.mono (by simp))
      have own0 := own_below (own_new w w.heap.size (Nat.le_refl _) (n % 128 + 128)) hbel1 (Nat.le_refl _)
      obtain ⟨g, cap, rfl, hg, hg2, hc, hm, hcell⟩ := own_shape hown1 (by omega)
      have hsz := hb1.size
      have HC : Hid (∀ (j : Nat) (u : Value), (List.map (Value.int IntKind.u8) (put (n / 128)))[j]? = some u → w1.cell? ((⟨g, 0, none⟩ : Addr).add j) = some u) := hcell
      clear HI hown1 hbel1 hcell
      go_wp2_with (at_builtin; refine wpList_append_own _ rfl _ _ 27 rfl w.heap.size 5 i0 (.int .u8 0) 1 1 Try.underlying27 hi hz0 hz1 hz2 rfl (by decide) _ _ _ rfl own0 ⟨g, 0, none⟩ (put (n / 128)).length cap ((put (n / 128)).map (Value.int .u8)) rfl (by simp) HC.out (bytes_oneCell _) ?d3 ?d4 ?d5 ?_)
      case d3 => unfold maxLen; simp; omega
      case d4 => simp; omega
      case d5 => first | omega | (simp; omega)
      intro v' w2 hown' hgrow _
      have hbel2 : Below w.heap.size w w2 := hb1.grown hgrow hsz (fun k hk => by simp [Value.ownBlock] at hk; omega)
      clear HC own0
      go_wp2
      go_ret
      exact ⟨v', rfl, by rw [put_big (by omega) h1]; simpa [Nat.add_comm] using hown', hbel2⟩
end Go.Proofs.Ytbfkmakfkbdafaa

namespace Go.Proofs.Ytbfkmakfkbdafaa
set_option maxRecDepth 100000
open Go.ChangeShapes Go.WideShapes Go.ChangeAt Go.RowKit

set_option maxHeartbeats 400000 in
set_option maxRecDepth 100000 in
theorem wrapped_any (v : Value) (xs : List Int) (w : World) (h : Reads .u8 w v xs) (hx : ∀ x ∈ xs, 0 ≤ x ∧ x ≤ 255) (hl : xs.length ≤ 20000) :
    Calls Try.prog 25 #[v] w fun e w' =>
      ∃ v', e = .returned (.tuple #[v', .int .i64 0]) ∧ w'.ownsRow w.heap.size 5 1 v' (wrap xs).length ((wrap xs).map (Value.int .u8)) ∧ Below w.heap.size w w' := by
  have HR : Hid (Reads .u8 w v xs) := h
  have HX : Hid (∀ x ∈ xs, 0 ≤ x ∧ x ≤ 255) := hx
  have HB : Hid (∀ x ∈ put xs.length ++ xs, 0 ≤ x ∧ x ≤ 255) := head_bytes hx hl
  have pl := put_len (xs.length : Int)
  have HS : Hid (wrap xs = (put xs.length ++ xs) ++ four (crc (put xs.length ++ xs))) := rfl
  have hcr := crc_lt HB.out
  obtain ⟨a, cap, rfl, _, _, _, _⟩ := h
  clear hx
  go_enter Try.func25, Try.ntmps25
  go_wp2_with fail
  refine (packed_any 9 (xs.length : Int) _ (by omega) (lt_128_10 (by omega)) (by omega)).mono ?_
  rintro e w1 ⟨v1, rfl, hown1, hbel1⟩
  have O1 : Hid (w1.ownsRow w.heap.size 5 1 v1 (put xs.length).length ((put xs.length).map (Value.int .u8))) := hown1
  have B1 : Hid (Below w.heap.size w w1) := hbel1
  clear hown1 hbel1
  generalize put (xs.length : Int) = hd at *
  go_wp2_with fail
  go_loopw [4, 5] (fun v i wr => ∃ k : Nat, k ≤ xs.length ∧ i = .int .i64 k ∧ wr.ownsRow w.heap.size 5 1 v (hd ++ xs.take k).length ((hd ++ xs.take k).map (Value.int .u8)) ∧ Below w.heap.size w wr) (fun _ i _ => xs.length - (intOf i).toNat)
  case atStart => exact ⟨0, by omega, rfl, by simpa using O1.out, B1.out⟩
  case round =>
    obtain ⟨k, hk, rfl, hown, hbel⟩ := hrel
    have hs := hbel.size
    by_cases hlt : k < xs.length
    · obtain ⟨b, off, cap', e1, hc, hm, hb, hcell⟩ := (HR.out.below hbel (Nat.le_refl _)).plain (by omega)
      injection e1 with e1 _ e3
      subst e1 e3
      have hck := hcell k hlt
      have HTk : Hid (xs.take (k + 1) = xs.take k ++ [xs.getD k 0]) := take_snocI hlt
      have hlen : (hd ++ xs.take k).length ≤ 20010 := by simp; omega
      generalize xs.getD k 0 = x at *
      have OW : Hid (wr.ownsRow w.heap.size 5 1 u4 (hd ++ xs.take k).length ((hd ++ xs.take k).map (Value.int .u8))) := hown
      clear hown
      have HA : Hid (hd ++ xs.take (k + 1) = (hd ++ xs.take k) ++ [x]) := by show _ = _; rw [HTk.out]; simp
      clear HTk
      generalize hd ++ xs.take k = f at *
      clear hcell
      go_wp2_with (at_builtin; refine wpList_append_reads rfl _ _ rfl w.heap.size _ f rfl (OW.out.alloc _) _ [x] rfl (reads_block (xs := [x]) (heap_alloc_new _ _) (by simp [maxLen])) (by simp; omega) (by simp; omega) ?_)
      intro v2 w2 hown2 hbel2 _
      have B2 : Hid (Below w.heap.size w w2) := (hbel.alloc hs _).trans hbel2
      have O2 : Hid (w2.ownsRow w.heap.size 5 1 v2 (hd ++ xs.take (k + 1)).length ((hd ++ xs.take (k + 1)).map (Value.int .u8))) := by show World.ownsRow _ _ _ _ _ _ _; rw [HA.out]; simpa using hown2
      clear hown2 hbel2 hbel
      go_wp2
      go_roundw
      case rel => exact ⟨k + 1, by omega, by go_num, O2.out, B2.out⟩
      case measure => simp [intOf]; omega
    · have ek : xs.take k = xs := List.take_of_length_le (by omega)
      rw [ek] at hown
      clear ek
      have O2 : Hid (wr.ownsRow w.heap.size 5 1 u4 (hd ++ xs).length ((hd ++ xs).map (Value.int .u8))) := hown
      have B2 : Hid (Below w.heap.size w wr) := hbel
      clear hown hbel
      have hll : (hd ++ xs).length ≤ 20010 := by simp; omega
      generalize hd ++ xs = f at *
      go_wp2_with fail
      refine (summed_any _ f _ (reads_own O2.out) HB.out).mono ?_
      rintro e w3 ⟨rfl, rfl⟩
      have hc4 : (four (crc f)).length = 4 := rfl
      have R4 : Hid (Reads .u8 (w3.alloc (.cells ((four (crc f)).map (Value.int .u8)).toArray 5)) (.slice (some ⟨w3.heap.size, 0, none⟩) 4 4) (four (crc f))) := reads_block (heap_alloc_new _ _) (by simp [hc4, maxLen])
      have O5 : Hid ((w3.alloc (.cells ((four (crc f)).map (Value.int .u8)).toArray 5)).ownsRow w.heap.size 5 1 u4 f.length (f.map (Value.int .u8))) := O2.out.alloc _
      have B5 : Hid (Below w.heap.size w (w3.alloc (.cells ((four (crc f)).map (Value.int .u8)).toArray 5))) := B2.out.alloc hs _
      simp only [four, List.map_cons, List.map_nil] at R4 O5 B5
      go_wp2_with (at_builtin; refine wpList_append_reads rfl _ _ rfl w.heap.size _ f rfl O5.out _ (four (crc f)) rfl R4.out (by simp [hc4]; omega) (by simp; omega) ?_)
      intro v6 w6 hown6 hbel6 _
      have O6 : Hid (w6.ownsRow w.heap.size 5 1 v6 (wrap xs).length ((wrap xs).map (Value.int .u8))) := by show World.ownsRow _ _ _ _ _ _ _; rw [HS.out]; simpa [hc4] using hown6
      have B6 : Hid (Below w.heap.size w w6) := B5.out.trans hbel6
      clear hown6 hbel6
      go_wp2
      go_ret2
      exact ⟨v6, rfl, O6.out, B6.out⟩

theorem wrapped_over (a : Option Addr) (n cap : Nat) (w : World) (hl : 20000 < n) :
    Calls Try.prog 25 #[.slice a n cap] w fun e w' => e = .returned (.tuple #[.slice none 0 0, .int .i64 1]) ∧ w' = w := by
  go_enter Try.func25, Try.ntmps25
  go_wp2_with fail
  go_ret2
  exact ⟨rfl, rfl⟩
end Go.Proofs.Ytbfkmakfkbdafaa

namespace Go.Proofs.Ytbfkmakfkbdafaa
set_option maxRecDepth 100000
open Go.ChangeShapes Go.WideShapes Go.ChangeAt Go.RowKit

theorem own_setN {w : World} {base g n cap j : Nat} {xs : List Int} {x : Int} (h : w.ownsRow base 3 1 (.slice (some ⟨g, 0, none⟩) n cap) n (xs.flatMap encI)) : (w.setCell ⟨g, j, none⟩ (.int .i64 x)).ownsRow base 3 1 (.slice (some ⟨g, 0, none⟩) n cap) n ((xs.set j x).flatMap encI) := by
  have := own_setRow (j := j) (x := .int .i64 x) h
  rw [flatI] at this ⊢
  rwa [List.map_set]
theorem own_atN {w : World} {base g n cap : Nat} {xs : List Int} (h : w.ownsRow base 3 1 (.slice (some ⟨g, 0, none⟩) n cap) n (xs.flatMap encI)) {i : Nat} {x : Int} (hx : xs[i]? = some x) : w.cell? ⟨g, i, none⟩ = some (.int .i64 x) := by
  have := h.cells rfl i (.int .i64 x) (by rw [flatI, List.getElem?_map, hx]; rfl)
  rwa [addr_add] at this
end Go.Proofs.Ytbfkmakfkbdafaa
