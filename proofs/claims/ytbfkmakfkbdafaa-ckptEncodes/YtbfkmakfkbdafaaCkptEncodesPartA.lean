/-
  Rows, where a box of another type is written.
  Contract of the law's saveds: a copy.
  Contract of the law's own sameValues, of what reads alike.
  Contract of the law's own sameSaved, of what reads alike.
  An append of bytes, as it runs.
  Rows of the call's own that lie in other blocks.
  A region that draws its order, whose last operation waits for all others: the others in whatever order, then that one. (So the last one may store into what the others have read.)
  Calls in a region that draws its order: one whose result is told by a relation, one that gives up by a panic.
  Contract of the closure that writes numbers in ckpt.Encode.
  Contract of ckpt.Encode: what P14.2 says.
  Contracts of the document's own MailAhead and IsOrdered; an insertion in plain mathematics.
  Contracts of the document's own ValueMay (at Dist) and SavedMay.
  Contracts of frame.Sum and of the document's own sum, told bit by bit: both answer P2.1.
  Contract of pacelineref.Packed: it returns the bytes of P1.1 in memory of its own; nothing else is written.
  Contract of the document's own frame: that of P2.2 in memory of its own, or the error; nothing else is written.
  Rows of numbers of the call's own: a number in them, a store into them.
  Contract of the document's own SavedBytes: what P14.2 says.
-/
import Derived.Test.YtbfkmakfkbdafaaBoxMem
import Derived.Test.YtbfkmakfkbdafaaValMem
import Derived.Test.YtbfkmakfkbdafaaMailSame
import Derived.Test.YtbfkmakfkbdafaaSavedOpen
import Derived.Test.YtbfkmakfkbdafaaSavedMayP
import Derived.Deep.CutRange
import Derived.Test.YtbfkmakfkbdafaaTwoMem
import Derived.Deep.QuietTactic
import Derived.BigQuiet
import Derived.Lib.QuietBelow
import Derived.Test.YtbfkmakfkbdafaaBase
import Derived.Laws.AppendOwnNone
import Derived.Test.YtbfkmakfkbdafaaKeptMem
import Derived.Test.YtbfkmakfkbdafaaRowBase
import Derived.Deep.RegionHeld3
import Derived.Test.YtbfkmakfkbdafaaSavedMath
import Derived.Test.YtbfkmakfkbdafaaPutWalk
import Derived.Shelf.Abstract
import Derived.Test.YtbfkmakfkbdafaaMailMath
import Derived.Test.YtbfkmakfkbdafaaMayMail
import Derived.Test.YtbfkmakfkbdafaaSumWalk
import Derived.Test.YtbfkmakfkbdafaaWrapWalk
import Derived.Test.YtbfkmakfkbdafaaRowNew

namespace Go.Proofs.Ytbfkmakfkbdafaa
set_option maxRecDepth 100000
open Go.ChangeShapes Go.WideShapes Go.ChangeAt Go.RowKit

theorem own_off {t : TypeId} {w w' : World} {q base n size : Nat} {el : TypeId} {v : Value} {xs : List Value} {cs : Array Value} (ho : w.ownsRow base el size v n xs) (hq : BX t w q cs) (hne : el ≠ t) (hk : Kept (fun k => k = q) w w') : w'.ownsRow base el size v n xs := hk.own ho fun _ hg => own_block ho hg hq hne
end Go.Proofs.Ytbfkmakfkbdafaa

namespace Go.Proofs.Ytbfkmakfkbdafaa
set_option maxRecDepth 100000
open Go.ChangeShapes Go.WideShapes Go.ChangeAt Go.RowKit

def putS (w : World) (q : Nat) (a b c d e : Value) : World := ((((w.setCell ⟨q, 0, none⟩ a).setCell ⟨q, 1, none⟩ b).setCell ⟨q, 2, none⟩ c).setCell ⟨q, 3, none⟩ d).setCell ⟨q, 4, none⟩ e
theorem BX.putS {t : TypeId} {w : World} {q : Nat} {a b c d e x1 x2 x3 x4 x5 : Value} (h : BX t w q #[a, b, c, d, e]) : BX t (putS w q x1 x2 x3 x4 x5) q #[x1, x2, x3, x4, x5] := ((((h.set 0 x1).set 1 x2).set 2 x3).set 3 x4).set 4 x5
theorem kept_putS (w : World) (q : Nat) (a b c d e : Value) : Kept (fun k => k = q) w (Go.Proofs.Ytbfkmakfkbdafaa.putS w q a b c d e) := ((((Kept.box _ _ _ _).trans (Kept.box _ _ _ _)).trans (Kept.box _ _ _ _)).trans (Kept.box _ _ _ _)).trans (Kept.box _ _ _ _)
theorem BX.all5f {t : TypeId} {w : World} {q : Nat} {a b c d e : Value} (h : BX t w q #[a, b, c, d, e]) : w.frozen? ⟨q, 0, none⟩ = false ∧ w.frozen? ⟨q, 1, none⟩ = false ∧ w.frozen? ⟨q, 2, none⟩ = false ∧ w.frozen? ⟨q, 3, none⟩ = false ∧ w.frozen? ⟨q, 4, none⟩ = false := ⟨h.frozen 0, h.frozen 1, h.frozen 2, h.frozen 3, h.frozen 4⟩

set_option maxHeartbeats 1000000 in
set_option maxRecDepth 100000 in
theorem saveds_any (s : SvS) (vv vm : Value) (w : World) (hv : MlR w vv s.vals) (hm : MlR w vm s.mail) (hB : SavB s) :
    Calls Try.prog 6 #[.agg #[.int .i64 s.step, .int .i64 s.phase, .bool s.fresh, vv, vm]] w fun e w' => ∃ v1 v2, e = .returned (.agg #[.int .i64 s.step, .int .i64 s.phase, .bool s.fresh, v1, v2]) ∧ w'.ownsRow w.heap.size 52 2 v1 s.vals.length (s.vals.flatMap encM) ∧ w'.ownsRow w.heap.size 54 2 v2 s.mail.length (s.mail.flatMap encM) ∧ Below w.heap.size w w' := by
  have HV : Hid (MlR w vv s.vals) := hv
  have HM : Hid (MlR w vm s.mail) := hm
  have hl1 := hB.1.2
  have hl2 := hB.2.2
  obtain ⟨va, vc, rfl, hvc, hvm, _, _⟩ := hv
  obtain ⟨ma, mc, rfl, hmc, hmm, _, _⟩ := hm
  unfold maxLen at hvm hmm
  obtain ⟨W0, hW0⟩ : ∃ W0, W0 = (w.alloc (.cells #[.int .i64 s.step, .int .i64 s.phase, .bool s.fresh, .slice va s.vals.length vc, .slice ma s.mail.length mc] 25)).alloc (.cells #[.int .i64 0, .int .i64 0, .bool false, .slice none 0 0, .slice none 0 0] 25) := ⟨_, rfl⟩
  obtain ⟨Q0, T0, B0, s1, s2⟩ := boxes2 w #[.int .i64 s.step, .int .i64 s.phase, .bool s.fresh, .slice va s.vals.length vc, .slice ma s.mail.length mc] #[.int .i64 0, .int .i64 0, .bool false, .slice none 0 0, .slice none 0 0] 25 25 W0 hW0
  have BH : Hid (Below w.heap.size w W0) := B0
  have Z0 : Hid (BX 25 W0 (w.heap.size + 1) #[.int .i64 0, .int .i64 0, .bool false, .slice none 0 0, .slice none 0 0]) := T0
  have X0 : Hid (BX 25 W0 w.heap.size #[.int .i64 s.step, .int .i64 s.phase, .bool s.fresh, .slice va s.vals.length vc, .slice ma s.mail.length mc]) := Q0
  have V0 : Hid (MlR W0 (.slice va s.vals.length vc) s.vals) := HV.out.below BH.out (Nat.le_refl _)
  have M0 : Hid (MlR W0 (.slice ma s.mail.length mc) s.mail) := HM.out.below BH.out (Nat.le_refl _)
  obtain ⟨c0, c1, c2, c3, c4⟩ := Q0.all5
  clear Q0 T0 B0 hB
  go_enter Try.func6, Try.ntmps6
  go_upto_region 1 with fail
  rw [← hW0]
  clear hW0
  go_wp2_with (at_builtin; refine wpList_append_rowK kV rfl _ _ rfl W0.heap.size _ ([] : List Ml) rfl (World.ownsRow_nil _ _ _ _) _ s.vals rfl V0.out ?d1 ?d2 (Nat.le_refl _) ?_)
  case d1 => simp [kV]; omega
  case d2 => simp [maxLen]; omega
  intro v1 w1 hown hb1 _
  have hv1 : w1.ownsRow W0.heap.size 52 2 v1 s.vals.length (s.vals.flatMap encM) := by simpa [kV] using hown
  obtain ⟨a1, n1, k1, rfl⟩ : ∃ a n c, v1 = .slice a n c := by
    rcases own_shapeK hv1 with ⟨e, _⟩ | ⟨g', c', e, _⟩
    · exact ⟨_, _, _, e⟩
    · exact ⟨_, _, _, e⟩
  have hs1 := hb1.size
  have x1 := X0.out.below hb1 (by omega)
  have z1 := Z0.out.below hb1 (by omega)
  obtain ⟨d0, d1, d2, d3, d4⟩ := x1.all5
  obtain ⟨_, _, _, f3, _⟩ := x1.all5f
  have X1 : Hid (BX 25 (w1.setCell ⟨w.heap.size, 3, none⟩ (.slice a1 n1 k1)) w.heap.size #[.int .i64 s.step, .int .i64 s.phase, .bool s.fresh, .slice a1 n1 k1, .slice ma s.mail.length mc]) := x1.set 3 _
  have Z1 : Hid (BX 25 (w1.setCell ⟨w.heap.size, 3, none⟩ (.slice a1 n1 k1)) (w.heap.size + 1) #[.int .i64 0, .int .i64 0, .bool false, .slice none 0 0, .slice none 0 0]) := z1.other (by omega)
  have O1 : Hid ((w1.setCell ⟨w.heap.size, 3, none⟩ (.slice a1 n1 k1)).ownsRow W0.heap.size 52 2 (.slice a1 n1 k1) s.vals.length (s.vals.flatMap encM)) := x1.own hv1 (by decide)
  have B1 : Hid (Below w.heap.size w (w1.setCell ⟨w.heap.size, 3, none⟩ (.slice a1 n1 k1))) := (BH.out.trans (hb1.mono (by omega))).setCell (by simp) _
  clear hown hv1 hb1 x1 z1 c0 c1 c2 c3 c4
  go_upto_region 2 with fail
  clear d0 d1 d2 d3 d4 f3
  have hsz : (w1.setCell ⟨w.heap.size, 3, none⟩ (.slice a1 n1 k1)).heap.size = w1.heap.size := by simp
  generalize w1.setCell ⟨w.heap.size, 3, none⟩ (.slice a1 n1 k1) = w2 at *
  obtain ⟨c0, c1, c2, c3, c4⟩ := X1.out.all5
  go_wp2_with fail
  refine (mails_any _ s.mail w2 (HM.out.below B1.out (Nat.le_refl _)) hl2).mono ?_
  rintro e w3 ⟨v2, rfl, hv2, hb3⟩
  obtain ⟨a2, n2, k2, rfl⟩ : ∃ a n c, v2 = .slice a n c := by
    rcases own_shapeK hv2 with ⟨e, _⟩ | ⟨g', c', e, _⟩
    · exact ⟨_, _, _, e⟩
    · exact ⟨_, _, _, e⟩
  have hs3 := hb3.size
  have x3 := X1.out.below hb3 (by omega)
  have z3 := Z1.out.below hb3 (by omega)
  have o3 := own_below O1.out hb3 (Nat.le_refl _)
  obtain ⟨d0, d1, d2, d3, d4⟩ := x3.all5
  obtain ⟨_, _, _, _, f4⟩ := x3.all5f
  have X3 : Hid (BX 25 (w3.setCell ⟨w.heap.size, 4, none⟩ (.slice a2 n2 k2)) w.heap.size #[.int .i64 s.step, .int .i64 s.phase, .bool s.fresh, .slice a1 n1 k1, .slice a2 n2 k2]) := x3.set 4 _
  have Z3 : Hid (BX 25 (w3.setCell ⟨w.heap.size, 4, none⟩ (.slice a2 n2 k2)) (w.heap.size + 1) #[.int .i64 0, .int .i64 0, .bool false, .slice none 0 0, .slice none 0 0]) := z3.other (by omega)
  have O3 : Hid ((w3.setCell ⟨w.heap.size, 4, none⟩ (.slice a2 n2 k2)).ownsRow W0.heap.size 52 2 (.slice a1 n1 k1) s.vals.length (s.vals.flatMap encM)) := x3.own o3 (by decide)
  have P3 : Hid ((w3.setCell ⟨w.heap.size, 4, none⟩ (.slice a2 n2 k2)).ownsRow w2.heap.size 54 2 (.slice a2 n2 k2) s.mail.length (s.mail.flatMap encM)) := x3.own hv2 (by decide)
  have B3 : Hid (Below w.heap.size w (w3.setCell ⟨w.heap.size, 4, none⟩ (.slice a2 n2 k2))) := (B1.out.trans (hb3.mono (by omega))).setCell (by simp) _
  clear hv2 hb3 x3 z3 o3 c0 c1 c2 c3 c4
  go_upto_region 3 with fail
  clear d0 d1 d2 d3 d4 f4
  generalize w3.setCell ⟨w.heap.size, 4, none⟩ (.slice a2 n2 k2) = w4 at *
  have RX : Hid (BX 25 (putS w4 (w.heap.size + 1) (.int .i64 s.step) (.int .i64 s.phase) (.bool s.fresh) (.slice a1 n1 k1) (.slice a2 n2 k2)) (w.heap.size + 1) #[.int .i64 s.step, .int .i64 s.phase, .bool s.fresh, .slice a1 n1 k1, .slice a2 n2 k2]) := Z3.out.putS
  have VE : Hid ((putS w4 (w.heap.size + 1) (.int .i64 s.step) (.int .i64 s.phase) (.bool s.fresh) (.slice a1 n1 k1) (.slice a2 n2 k2)).ownsRow w.heap.size 52 2 (.slice a1 n1 k1) s.vals.length (s.vals.flatMap encM)) := own_lower (own_off O3.out Z3.out (by decide) (kept_putS w4 (w.heap.size + 1) _ _ _ _ _)) (by omega)
  have ME : Hid ((putS w4 (w.heap.size + 1) (.int .i64 s.step) (.int .i64 s.phase) (.bool s.fresh) (.slice a1 n1 k1) (.slice a2 n2 k2)).ownsRow w.heap.size 54 2 (.slice a2 n2 k2) s.mail.length (s.mail.flatMap encM)) := own_lower (own_off P3.out Z3.out (by decide) (kept_putS w4 (w.heap.size + 1) _ _ _ _ _)) (by omega)
  have BE : Hid (Below w.heap.size w (putS w4 (w.heap.size + 1) (.int .i64 s.step) (.int .i64 s.phase) (.bool s.fresh) (.slice a1 n1 k1) (.slice a2 n2 k2))) := ((((B3.out.setCell (by simp) _).setCell (by simp) _).setCell (by simp) _).setCell (by simp) _).setCell (by simp) _
  obtain ⟨d0, d1, d2, d3, d4⟩ := X3.out.all5
  obtain ⟨e0, e1, e2, e3, e4⟩ := Z3.out.all5
  obtain ⟨f0, f1, f2, f3, f4⟩ := Z3.out.all5f
  go_wp2_with fail
  obtain ⟨r0, r1, r2, r3, r4⟩ := RX.out.all5
  unfold putS at r0 r1 r2 r3 r4
  exact bodyPost_ret (v := .agg #[.int .i64 s.step, .int .i64 s.phase, .bool s.fresh, .slice a1 n1 k1, .slice a2 n2 k2]) (by simp [results, Try.results6, go_sem, r0, r1, r2, r3, r4]) rfl ⟨_, _, rfl, VE.out, ME.out, BE.out⟩
end Go.Proofs.Ytbfkmakfkbdafaa

namespace Go.Proofs.Ytbfkmakfkbdafaa
set_option maxRecDepth 100000
open Go.ChangeShapes Go.WideShapes Go.ChangeAt Go.RowKit

set_option maxHeartbeats 1000000 in
set_option maxRecDepth 100000 in
theorem sameVals_yes (va vb : Value) (vs : List Ml) (w : World) (ha : MlR w va vs) (hb : MlR w vb vs) :
    Calls Try.prog 26 #[va, vb] w fun e w' => e = .returned (.bool true) ∧ Below w.heap.size w w' := by
  have HA : Hid (MlR w va vs) := ha
  have HB : Hid (MlR w vb vs) := hb
  obtain ⟨a, ca, rfl, hca, hma, _, _⟩ := ha
  obtain ⟨b, cb, rfl, hcb, hmb, _, _⟩ := hb
  unfold maxLen at hma hmb
  have hll : ((vs.length : Int) != (vs.length : Int)) = false := by simp
  go_enter Try.func26, Try.ntmps26
  go_wp2_with fail
  go_loopw [5] (fun i wr => ∃ k : Nat, k ≤ vs.length ∧ i = .int .i64 k ∧ Below w.heap.size w wr) (fun i _ => vs.length - (intOf i).toNat)
  case atStart => exact ⟨0, by omega, rfl, Below.refl _ _⟩
  case round =>
    obtain ⟨k, hk, rfl, hbel⟩ := hrel
    have HBL : Hid (Below w.heap.size w wr) := hbel
    clear hbel
    by_cases hlt : k < vs.length
    · obtain ⟨xa, oa, cap', e1, _, _, la, hva⟩ := MlR.at (HA.out.below HBL.out (Nat.le_refl _)) (by omega)
      injection e1 with e1 _ e3
      subst e1 e3
      obtain ⟨xb, ob, cap', e1, _, _, lb, hvb⟩ := MlR.at (HB.out.below HBL.out (Nat.le_refl _)) (by omega)
      injection e1 with e1 _ e3
      subst e1 e3
      obtain ⟨x, hx⟩ := getX hlt
      have p0 : (0 : Int) ≤ (k : Int) := by omega
      have p1 : (k : Int) < (vs.length : Int) := by omega
      obtain ⟨c1, c2⟩ := hva k x hx
      obtain ⟨d1, d2⟩ := hvb k x hx
      obtain ⟨x1, x2⟩ := x
      simp only at c1 c2 d1 d2
      clear hva hvb hx
      go_wp2_with fail
      go_quiet (fail)
      go_wp2_with fail
      go_roundw
      case rel => exact ⟨k + 1, by omega, by go_num, below_drewN HBL.out _⟩
      case measure => simp [intOf]; omega
    · go_wp2_with fail
      go_ret
      exact ⟨rfl, HBL.out⟩

end Go.Proofs.Ytbfkmakfkbdafaa

namespace Go.Proofs.Ytbfkmakfkbdafaa
set_option maxRecDepth 100000
open Go.ChangeShapes Go.WideShapes Go.ChangeAt Go.RowKit

theorem encS_bd (s : SvS) : ∀ x ∈ (encS s).1, 0 ≤ x ∧ x ≤ 255 := by
  cases h : svMay s with
  | false => rw [encS_no h]; intro x hx; cases hx
  | true =>
    by_cases h2 : (bytN (numsS s)).length ≤ 20000
    · rw [encS_yes h h2]
      exact wrap_bytes (bytN_bytes fun n hn => ⟨(numsS_in h n hn).1, by have := (numsS_in h n hn).2; omega⟩) h2
    · rw [encS_big h h2]; intro x hx; cases hx

set_option maxHeartbeats 2000000 in
set_option maxRecDepth 100000 in
theorem sameSaved_yes (s : SvS) (va vb vma vmb : Value) (w : World) (ha : MlR w va s.vals) (hb : MlR w vb s.vals) (hma : MlR w vma s.mail) (hmb : MlR w vmb s.mail) :
    Calls Try.prog 10 #[.agg #[.int .i64 s.step, .int .i64 s.phase, .bool s.fresh, va, vma], .agg #[.int .i64 s.step, .int .i64 s.phase, .bool s.fresh, vb, vmb]] w fun e w' => e = .returned (.bool true) ∧ Below w.heap.size w w' := by
  have HA : Hid (MlR w va s.vals) := ha
  have HB : Hid (MlR w vb s.vals) := hb
  have HMA : Hid (MlR w vma s.mail) := hma
  have HMB : Hid (MlR w vmb s.mail) := hmb
  obtain ⟨a, ca, rfl⟩ := ha.shape
  obtain ⟨b, cb, rfl⟩ := hb.shape
  obtain ⟨ma, mca, rfl⟩ := hma.shape
  obtain ⟨mb, mcb, rfl⟩ := hmb.shape
  clear ha hb hma hmb
  obtain ⟨W0, hW0⟩ : ∃ W0, W0 = (w.alloc (.cells #[.int .i64 s.step, .int .i64 s.phase, .bool s.fresh, .slice a s.vals.length ca, .slice ma s.mail.length mca] 25)).alloc (.cells #[.int .i64 s.step, .int .i64 s.phase, .bool s.fresh, .slice b s.vals.length cb, .slice mb s.mail.length mcb] 25) := ⟨_, rfl⟩
  obtain ⟨Q0, T0, B0, s1, s2⟩ := boxes2 w #[.int .i64 s.step, .int .i64 s.phase, .bool s.fresh, .slice a s.vals.length ca, .slice ma s.mail.length mca] #[.int .i64 s.step, .int .i64 s.phase, .bool s.fresh, .slice b s.vals.length cb, .slice mb s.mail.length mcb] 25 25 W0 hW0
  have BH : Hid (Below w.heap.size w W0) := B0
  have HK : Hid (∀ X, Below W0.heap.size W0 X → BX 25 X w.heap.size #[.int .i64 s.step, .int .i64 s.phase, .bool s.fresh, .slice a s.vals.length ca, .slice ma s.mail.length mca] ∧ BX 25 X (w.heap.size + 1) #[.int .i64 s.step, .int .i64 s.phase, .bool s.fresh, .slice b s.vals.length cb, .slice mb s.mail.length mcb] ∧ Below w.heap.size w X) := fun X hX => ⟨Q0.below hX (by omega), T0.below hX (by omega), BH.out.trans (hX.mono (by omega))⟩
  have A0 : Hid (Below W0.heap.size W0 W0) := Below.refl _ _
  obtain ⟨q0, q1, q2, q3, q4⟩ := Q0.all5
  obtain ⟨p0, p1, p2, p3, p4⟩ := T0.all5
  have t0 : (s.step == s.step) = true := by simp
  have t1 : (s.phase == s.phase) = true := by simp
  have t2 : (s.fresh == s.fresh) = true := by simp
  have CV : Hid (∀ X, Below W0.heap.size W0 X → Calls Try.prog 26 #[.slice a s.vals.length ca, .slice b s.vals.length cb] X fun e w' => e = .returned (.bool true) ∧ Below X.heap.size X w') := fun X hX => sameVals_yes _ _ s.vals X (HA.out.below (HK.out X hX).2.2 (Nat.le_refl _)) (HB.out.below (HK.out X hX).2.2 (Nat.le_refl _))
  have CM : Hid (∀ X, Below W0.heap.size W0 X → Calls Try.prog 27 #[.slice ma s.mail.length mca, .slice mb s.mail.length mcb] X fun e w' => e = .returned (.bool true) ∧ Below X.heap.size X w') := fun X hX => sameMails_yes _ _ s.mail X (HMA.out.below (HK.out X hX).2.2 (Nat.le_refl _)) (HMB.out.below (HK.out X hX).2.2 (Nat.le_refl _))
  clear Q0 T0 B0 HA HB HMA HMB
  go_enter Try.func10, Try.ntmps10
  go_upto_region 1 with fail
  rw [← hW0]
  clear hW0
  go_wp2_with fail
  refine (CV.out _ A0.out).mono ?_
  rintro e w1 ⟨rfl, hb1⟩
  have A1 : Hid (Below W0.heap.size W0 w1) := hb1
  have hs1 := hb1.size
  obtain ⟨QA, QB, _⟩ := HK.out _ hb1
  clear q0 q1 q2 q3 q4 p0 p1 p2 p3 p4 hb1
  obtain ⟨q0, q1, q2, q3, q4⟩ := QA.all5
  obtain ⟨p0, p1, p2, p3, p4⟩ := QB.all5
  clear QA QB
  go_wp2_with fail
  refine (CM.out _ A1.out).mono ?_
  rintro e w2 ⟨rfl, hb2⟩
  have A2 : Hid (Below w.heap.size w w2) := (HK.out _ (A1.out.trans (hb2.mono hs1))).2.2
  clear q0 q1 q2 q3 q4 p0 p1 p2 p3 p4 hb2
  go_wp2_with fail
  go_ret
  exact ⟨rfl, A2.out⟩
end Go.Proofs.Ytbfkmakfkbdafaa

namespace Go.Proofs.Ytbfkmakfkbdafaa
set_option maxRecDepth 100000
open Go.ChangeShapes Go.WideShapes Go.ChangeAt Go.RowKit

/-- What an append of bytes that read comes to. -/
theorem run_append_byt {w : World} (ty : TypeId) (base : Nat) (v : Value) (xs : List Int) (hown : w.ownsRow base 5 1 v xs.length (xs.map (Value.int .u8)))
    (v2 : Value) (ys : List Int) (hr : Reads .u8 w v2 ys) (hlen : xs.length + ys.length ≤ 140737488355328) (hbase : base ≤ w.heap.size) :
    ∃ v' w', (Builtin.append_ #[27, 27] ty #[v, v2]).run Try.prog w = .ok v' w' ∧ w'.ownsRow base 5 1 v' (xs ++ ys).length ((xs ++ ys).map (Value.int .u8)) ∧ w.grownBy w' v.ownBlock := by
  obtain ⟨i0, hi, hz0, hz1, hz2⟩ := info_parts Try.info5
  obtain ⟨ad, cap, rfl, hc, hm, ha, hcell⟩ := hr
  cases ad with
  | none =>
    have hcap := ha rfl
    have : ys = [] := List.eq_nil_of_length_eq_zero (by omega)
    subst this
    subst hcap
    have h := run_append_owned_none (P := Try.prog) (w := w) base 27 ty 5 i0 1 Try.underlying27 hi v _ _ hown
    exact ⟨v, w, h, by simpa using hown, World.grownBy.refl _ _⟩
  | some p =>
    obtain ⟨v', w', h1, h2, h3, _⟩ := run_append_own w base 27 ty 5 i0 (.int .u8 0) 1 1 Try.underlying27 hi hz0 hz1 hz2 rfl (by decide) v _ _ hown p ys.length cap (ys.map (Value.int .u8)) (by simp)
      (fun j u hj => by
        obtain ⟨hj1, rfl⟩ := getD_map hj
        exact hcell p rfl j hj1) (bytes_oneCell _) (by unfold maxLen; omega) (by omega) hbase
    exact ⟨v', w', h1, by simpa using h2, h3⟩
end Go.Proofs.Ytbfkmakfkbdafaa

namespace Go.Proofs.Ytbfkmakfkbdafaa
set_option maxRecDepth 100000
open Go.ChangeShapes Go.WideShapes Go.ChangeAt Go.RowKit

theorem own_ge {w : World} {base n size g : Nat} {e : TypeId} {v : Value} {xs : List Value} (h : w.ownsRow base e size v n xs) (hg : v.ownBlock = some g) : base ≤ g ∧ g < w.heap.size := h.lt g hg
/-- Two slices lie in other blocks. -/
def Apt (v u : Value) : Prop := ∀ g, v.ownBlock = some g → u.ownBlock = some g → False
theorem Apt.symm {v u : Value} (h : Apt v u) : Apt u v := fun g h1 h2 => h g h2 h1
theorem Apt.or {v u : Value} (h : Apt v u) : v.ownBlock = none ∨ v.ownBlock ≠ u.ownBlock := by
  cases hv : v.ownBlock with
  | none => exact .inl rfl
  | some g => exact .inr fun e => h g hv e.symm
theorem Apt.nil (u : Value) : Apt (.slice none 0 0) u := fun g h _ => by cases h
/-- A row that lay apart from one that has grown. -/
theorem Apt.grown {w : World} {v u : Value} {g n c : Nat} {base : Nat} {e : TypeId} {size m : Nat} {xs : List Value} (h : Apt v u) (hl : v.ownBlock = some g ∨ g = w.heap.size) (hu : w.ownsRow base e size u m xs) : Apt (.slice (some ⟨g, 0, none⟩) n c) u := by
  intro q h1 h2
  injection h1 with h1
  have h1' : g = q := h1
  subst h1'
  rcases hl with h3 | h3
  · exact h g h3 h2
  · have := (own_ge hu h2).2
    omega
end Go.Proofs.Ytbfkmakfkbdafaa

namespace Go.Proofs.Ytbfkmakfkbdafaa
set_option maxRecDepth 100000
open Go.RowKit

/-- What the others must come to. -/
def postLast (P : Program) (o : Oper) (Q : Exit → Act → World → Prop) : Exit → Act → World → Prop
  | .normal, a, w => o.wp P a w (fun a' w' => Q .normal a' w') Q
  | e, a, w => Q e a w

/-- Each of the others waits for earlier ones alone; the last one waits for all. -/
def lastOK (md : Region.Mode) (ops : Array Oper) (o : Oper) : Bool :=
  o.guard.isNone && (List.range ops.size).all fun i =>
    (match ops[i]? with
      | some x => x.guard.isNone && x.after.toList.all (fun e => !Region.binds md e || decide (e.on < i))
      | none => false) && o.after.toList.any (fun e => Region.binds md e && e.on == i)
def lastIn (md : Region.Mode) (n : Nat) (o : Oper) : Bool := o.after.toList.all fun e => !Region.binds md e || decide (e.on < n)

section
variable {P : Program} {md : Region.Mode} {ops : Array Oper} {o : Oper} {Q : Exit → Act → World → Prop}

theorem wp_postLast {x : Oper} {a : Act} {w : World} {K : Act → World → Prop} (h : x.wp P a w K (postLast P o Q)) : x.wp P a w K Q := by
  unfold Oper.wp at *
  generalize (execOp a.eval x).run P w = r at *
  cases r with
  | ok n w' => cases n <;> exact h
  | halt e w' => cases e <;> exact h
theorem letsOut_postLast (h : LetsOut (postLast P o Q)) : LetsOut Q := h

theorem lastOK_guard (h : lastOK md ops o = true) : o.guard = none := by
  unfold lastOK at h
  rw [Bool.and_eq_true] at h
  simpa using h.1
theorem lastOK_at (h : lastOK md ops o = true) {i : Nat} {x : Oper} (hx : ops[i]? = some x) : x.guard = none ∧ (∀ e ∈ x.after, Region.binds md e = true → e.on < i) ∧ ∃ e ∈ o.after, Region.binds md e = true ∧ e.on = i := by
  unfold lastOK at h
  rw [Bool.and_eq_true] at h
  have hi : i < ops.size := (Array.getElem?_eq_some_iff.1 hx).1
  have := List.all_eq_true.1 h.2 i (List.mem_range.2 hi)
  rw [hx] at this
  simp only [Bool.and_eq_true] at this
  obtain ⟨⟨h1, h2⟩, h3⟩ := this
  refine ⟨by simpa using h1, fun e he hb => ?_, ?_⟩
  · have := List.all_eq_true.1 h2 e (Array.mem_toList_iff.2 he)
    rw [hb] at this
    simpa using this
  · obtain ⟨e, he, hb⟩ := List.any_eq_true.1 h3
    simp only [Bool.and_eq_true, beq_iff_eq] at hb
    exact ⟨e, Array.mem_toList_iff.1 he, hb.1, hb.2⟩

theorem getD_push_lt {l : Array Bool} {b d : Bool} {j : Nat} (h : j < l.size) : (l.push b).getD j d = l.getD j d := by
  simp [Array.getD, Array.getElem_push_lt h, h, Nat.lt_succ_of_lt h]
theorem getD_push_eq {l : Array Bool} {b d : Bool} : (l.push b).getD l.size d = b := by simp [Array.getD]
theorem getD_dflt {l : Array Bool} {j : Nat} (h : j < l.size) (d d' : Bool) : l.getD j d = l.getD j d' := by simp [Array.getD, h]

theorem ready_push {l : Array Bool} {b : Bool} (hs : l.size = ops.size) (h : lastOK md ops o = true) {j : Nat} (hj : j < ops.size) : j ∈ Region.ready md (ops.push o) (l.push b) ↔ j ∈ Region.ready md ops l := by
  rw [mem_ready, mem_ready, getD_push_lt (by omega)]
  have e : (ops.push o)[j]? = ops[j]? := by simp [Array.getElem?_push, Nat.ne_of_lt hj]
  rw [e]
  refine and_congr_right fun _ => ⟨?_, ?_⟩
  · rintro ⟨x, hx, ha⟩
    refine ⟨x, hx, fun e he hb => ?_⟩
    have := (lastOK_at h hx).2.1 e he hb
    have h2 := ha e he hb
    rwa [getD_push_lt (by omega)] at h2
  · rintro ⟨x, hx, ha⟩
    refine ⟨x, hx, fun e he hb => ?_⟩
    have := (lastOK_at h hx).2.1 e he hb
    rw [getD_push_lt (by omega)]
    exact ha e he hb
/-- Where nothing may come up, all have. -/
theorem ready_all {l : Array Bool} (hs : l.size = ops.size) (h : lastOK md ops o = true) (h0 : Region.ready md ops l = []) : ∀ j, j < ops.size → l.getD j false = true := by
  intro j
  induction j using Nat.strongRecOn with
  | _ j ih =>
    intro hj
    cases hl : l.getD j false
    · exfalso
      have : j ∈ Region.ready md ops l := by
        rw [mem_ready]
        refine ⟨by rw [getD_dflt (by omega) true false]; exact hl, ops[j], by simp [hj], fun e he hb => ?_⟩
        have := (lastOK_at h (Array.getElem?_eq_getElem hj)).2.1 e he hb
        exact ih e.on this (by omega)
      rw [h0] at this
      cases this
    · rfl
theorem ready_last {l : Array Bool} (hs : l.size = ops.size) (hin : lastIn md ops.size o = true) (hall : ∀ j, j < ops.size → l.getD j false = true) : ops.size ∈ Region.ready md (ops.push o) (l.push false) := by
  rw [mem_ready]
  refine ⟨by rw [← hs]; exact getD_push_eq, o, by simp, fun e he hb => ?_⟩
  have := List.all_eq_true.1 hin e (Array.mem_toList_iff.2 he)
  rw [hb] at this
  have hlt : e.on < ops.size := by simpa using this
  rw [getD_push_lt (by omega)]
  exact hall e.on hlt
theorem last_ready {l : Array Bool} (hs : l.size = ops.size) (h : lastOK md ops o = true) (hr : ops.size ∈ Region.ready md (ops.push o) (l.push false)) : Region.ready md ops l = [] := by
  rw [mem_ready] at hr
  obtain ⟨_, x, hx, ha⟩ := hr
  have ex : x = o := by simpa using hx.symm
  subst ex
  refine List.eq_nil_iff_forall_not_mem.2 fun j hj => ?_
  rw [mem_ready] at hj
  obtain ⟨h1, y, hy, _⟩ := hj
  have hjn : j < ops.size := (Array.getElem?_eq_some_iff.1 hy).1
  obtain ⟨_, _, e, he, hb, hon⟩ := lastOK_at h hy
  have := ha e he hb
  rw [hon, getD_push_lt (by omega), getD_dflt (by omega) false true, h1] at this
  cases this
theorem ready_done {l : Array Bool} (hs : l.size = ops.size) (h : lastOK md ops o = true) (h0 : Region.ready md ops l = []) : Region.ready md (ops.push o) (l.push true) = [] := by
  refine List.eq_nil_iff_forall_not_mem.2 fun j hj => ?_
  rcases Nat.lt_or_ge j ops.size with hlt | hge
  · rw [ready_push hs h hlt, h0] at hj; cases hj
  · rw [mem_ready] at hj
    obtain ⟨h1, y, hy, _⟩ := hj
    have hjn := (Array.getElem?_eq_some_iff.1 hy).1
    have ej : j = l.size := by simp at hjn; omega
    rw [ej, getD_push_eq] at h1
    cases h1

theorem wpAny_end {l : Array Bool} {a : Act} {w : World} (h0 : Region.ready md ops l = []) (h : Q .normal a w) : ∀ fuel, wpAny P md ops Q fuel l a w
  | 0 => ⟨h0, h⟩
  | _ + 1 => ⟨fun _ => h, by rw [h0]; simp⟩

theorem wpOp_last {l : Array Bool} {a : Act} {w : World} (hs : l.size = ops.size) (h : lastOK md ops o = true) (h0 : Region.ready md ops l = []) (hq : postLast P o Q .normal a w) (fuel : Nat) :
    wpOp P (ops.push o) Q ops.size (wpAny P md (ops.push o) Q fuel ((l.push false).setIfInBounds ops.size true)) a w := by
  unfold wpOp
  have e : (ops.push o)[ops.size]? = some o := by simp
  simp only [e]
  have hw : Region.wanted o (yielded (ops.push o) a.tmps) = true := by simp [Region.wanted, lastOK_guard h]
  rw [if_pos hw]
  refine .inl (Oper.wp_mono (fun a' w' h' => ?_) hq)
  have e2 : (l.push false).setIfInBounds ops.size true = l.push true := by
    rw [← hs]
    refine Array.ext_getElem? fun i => ?_
    rw [Array.getElem?_setIfInBounds, Array.getElem?_push, Array.getElem?_push]
    by_cases hi : l.size = i
    · subst hi; simp
    · simp [hi, Ne.symm hi]
  rw [e2]
  exact wpAny_end (ready_done hs h h0) h' _

theorem wpAny_last (h : lastOK md ops o = true) (hin : lastIn md ops.size o = true) : ∀ (fuel : Nat) (l : Array Bool) (a : Act) (w : World), l.size = ops.size →
    wpAny P md ops (postLast P o Q) fuel l a w → wpAny P md (ops.push o) Q (fuel + 1) (l.push false) a w := by
  intro fuel
  induction fuel with
  | zero =>
    intro l a w hs hp
    obtain ⟨h0, hq⟩ := hp
    refine ⟨fun h1 => ?_, fun i hi => ?_⟩
    · have := ready_last hs hin (ready_all hs h h0)
      rw [h1] at this; cases this
    · rcases Nat.lt_or_ge i ops.size with hlt | hge
      · rw [ready_push hs h hlt, h0] at hi; cases hi
      · have ei : i = ops.size := by
          obtain ⟨_, y, hy, _⟩ := mem_ready.1 hi
          have := (Array.getElem?_eq_some_iff.1 hy).1
          simp at this; omega
        subst ei
        exact wpOp_last hs h h0 hq _
  | succ fuel ih =>
    intro l a w hs hp
    obtain ⟨hq, hop⟩ := hp
    refine ⟨fun h1 => ?_, fun i hi => ?_⟩
    · have h0 : Region.ready md ops l = [] := List.eq_nil_iff_forall_not_mem.2 fun j hj => by
        have hjn : j < ops.size := by
          obtain ⟨_, y, hy, _⟩ := mem_ready.1 hj
          exact (Array.getElem?_eq_some_iff.1 hy).1
        have := (ready_push (b := false) hs h hjn).2 hj
        rw [h1] at this; cases this
      have := ready_last hs hin (ready_all hs h h0)
      rw [h1] at this; cases this
    · rcases Nat.lt_or_ge i ops.size with hlt | hge
      · have hi0 := (ready_push hs h hlt).1 hi
        have h1 := hop i hi0
        unfold wpOp at h1 ⊢
        have e : (ops.push o)[i]? = some ops[i] := by simp [Array.getElem?_push, Nat.ne_of_lt hlt, hlt]
        have e0 : ops[i]? = some ops[i] := by simp [hlt]
        simp only [e]
        simp only [e0] at h1
        have hg := (lastOK_at h e0).1
        have hw : ∀ t, Region.wanted ops[i] t = true := fun t => by simp [Region.wanted, hg]
        rw [if_pos (hw _)] at h1 ⊢
        have e2 : (l.push false).setIfInBounds i true = (l.setIfInBounds i true).push false := by
          refine Array.ext_getElem? fun j => ?_
          rw [Array.getElem?_setIfInBounds, Array.getElem?_push, Array.getElem?_push, Array.getElem?_setIfInBounds, Array.size_setIfInBounds, Array.size_push]
          by_cases hj : i = j
          · subst hj
            have h1 : i < l.size := by omega
            have h2 : i < l.size + 1 := by omega
            have h3 : ¬ i = l.size := by omega
            simp [h1, h2, h3]
          · simp [hj]
        rw [e2]
        rcases h1 with h1 | ⟨h1, h2⟩
        · exact .inl (wp_postLast (Oper.wp_mono (fun a' w' h' => ih _ a' w' (by simpa using hs) h') h1))
        · exact .inr ⟨h1, letsOut_postLast h2⟩
      · have ei : i = ops.size := by
          obtain ⟨_, y, hy, _⟩ := mem_ready.1 hi
          have := (Array.getElem?_eq_some_iff.1 hy).1
          simp at this; omega
        subst ei
        have h0 := last_ready hs h hi
        exact wpOp_last hs h h0 (hq h0) _

/-- The law. -/
theorem region_last {id : Nat} {a : Act} {w : World} {S : World → Prop} (hm : P.follows .mixedOrders = true) (h : lastOK .any ops o = true) (hin : lastIn .any ops.size o = true)
    (hp : wpAnyH P .any ops (postLast P o Q) S ops.size (Array.replicate ops.size false) a w.drew) : (Code.region id (ops.push o) true).wp P Q a w := by
  refine wp_region_any hm ?_
  have e1 : (ops.push o).size = ops.size + 1 := by simp
  have e2 : Array.replicate (ops.size + 1) false = (Array.replicate ops.size false).push false := Array.replicate_succ
  rw [e1, e2]
  exact wpAny_last h hin _ _ _ _ (by simp) (wpAny_of_held _ _ _ _ hp)
/-- An operation is taken first; its slot is named. -/
theorem takeH {S : World → Prop} {i : Nat} {oi : Oper} {v : Value} {d : Tmp} {fuel : Nat} {listed : Array Bool} {a : Act} {w : World} (hi : ops[i]? = some oi) (hd : oi.dst = some d)
    (hs : Region.noSelect ops = true) (hf : Region.free md ops listed i = true) (hr : (Region.ready md ops listed).contains i = true)
    (hQ : ∀ c a w, Q (.panic c) (a.put (some d) v) w → Q (.panic c) a w) (hw : Region.wanted oi (yielded ops a.tmps) = true) (hy : ∀ w, S w → (execOp a.eval oi).run P w = .ok (.value v) w) (hS : S w)
    (h : wpAnyH P md ops Q S fuel (listed.setIfInBounds i true) (a.put (some d) v) w) : wpAnyH P md ops Q S (fuel + 1) listed a w :=
  wpAnyH_take hi hs hf hr (by rw [hd]; exact hQ) (.inl ⟨hw, hy⟩) hS (by rw [hd]; exact h)
/-- Just one operation may come up, and is carried out; S is had again behind it. -/
theorem oneH {S : World → Prop} {i : Nat} {oi : Oper} {fuel : Nat} {listed : Array Bool} {a : Act} {w : World} (hi : ops[i]? = some oi) (hr : Region.ready md ops listed = [i]) (hg : oi.guard = none)
    (h : oi.wp P a w (fun a' w' => S w' ∧ wpAnyH P md ops Q S fuel (listed.setIfInBounds i true) a' w') Q) : wpAnyH P md ops Q S (fuel + 1) listed a w := by
  refine wpAnyH_all hr (by simp) fun j hj => ?_
  obtain rfl : j = i := by simpa using hj
  unfold wpOp
  simp only [hi]
  rw [if_pos (by simp [Region.wanted, hg])]
  exact .inl h
/-- A call that leaves the world as it was. -/
theorem call_same {oi : Oper} {a : Act} {w : World} {K : Act → World → Prop} {d : Tmp} {f : FuncId} {xs : Array Operand} {ats : Array TypeId} (hd : oi.dst = some d) (hop : oi.op = Op.call { callee := Callee.value (.func f), args := xs, argTypes := ats })
    (he : ∀ args w, (callFunc f args).run P w = .ok (.enter f args) w) {vs : Array Value} (hxs : xs.map a.eval = vs) {v : Value} (hc : Calls P f vs w fun e w' => e = .returned v ∧ w' = w) (hK : K (a.put (some d) v) w) : oi.wp P a w K Q := by
  unfold Oper.wp
  have hr : (execOp a.eval oi).run P w = .ok (.enter f vs) w := by
    have h2 : xs.map a.eval = vs := hxs
    simp [execOp, hop, resolve, invoke, Act.eval, Deferred.ofValue]
    have h3 := he (xs.map a.eval) w
    rw [h2] at h3
    rw [← h2] at h3 ⊢
    exact h3
  rw [hr, Oper.upon_enter]
  exact hc.mono (by rintro e w' ⟨rfl, rfl⟩; rw [hd]; exact hK)
/-- An append whose run is known. -/
theorem call_append {oi : Oper} {a : Act} {w w' : World} {K : Act → World → Prop} {d : Tmp} {s x : Operand} {t : TypeId} (hd : oi.dst = some d) (hop : oi.op = Op.call { callee := Callee.builtin Builtin.append, args := #[s, x], argTypes := #[t, t] })
    {v v2 v' : Value} (hs : a.eval s = v) (hx : a.eval x = v2) (hrun : (Builtin.append_ #[t, t] oi.type #[v, v2]).run P w = .ok v' w') (hK : K (a.put (some d) v') w') : oi.wp P a w K Q := by
  unfold Oper.wp
  simp [execOp, hop, resolve, invoke, builtin, hs, hx, hrun, Result.andThen]
  rw [Oper.upon_value, hd]
  exact hK
/-- An operation whose run is known. -/
theorem op_run {oi : Oper} {a : Act} {w w' : World} {K : Act → World → Prop} {d : Tmp} {v' : Value} (hd : oi.dst = some d) (hrun : (execOp a.eval oi).run P w = .ok (.value v') w') (hK : K (a.put (some d) v') w') : oi.wp P a w K Q := by
  unfold Oper.wp
  rw [hrun, Oper.upon_value, hd]
  exact hK
/-- The same for a region that is written out. -/
theorem region_lastF {id : Nat} {a : Act} {w : World} {S : World → Prop} (hm : P.follows .mixedOrders = true) (hf : ops.pop.push ops.back! = ops) (h : lastOK .any ops.pop ops.back! = true) (hin : lastIn .any ops.pop.size ops.back! = true)
    (hp : wpAnyH P .any ops.pop (postLast P ops.back! Q) S ops.pop.size (Array.replicate ops.pop.size false) a w.drew) : (Code.region id ops true).wp P Q a w := by
  have := region_last (id := id) hm h hin hp
  rwa [hf] at this
end
end Go.Proofs.Ytbfkmakfkbdafaa

namespace Go.Proofs.Ytbfkmakfkbdafaa
set_option maxRecDepth 100000
open Go.RowKit

section
variable {P : Program} {Q : Exit → Act → World → Prop}
/-- A call, its result and its world taken up. -/
theorem call_gets {oi : Oper} {a : Act} {w : World} {K : Act → World → Prop} {d : Tmp} {f : FuncId} {xs : Array Operand} {ats : Array TypeId} (hd : oi.dst = some d) (hop : oi.op = Op.call { callee := Callee.value (.func f), args := xs, argTypes := ats })
    (he : ∀ args w, (callFunc f args).run P w = .ok (.enter f args) w) {vs : Array Value} (hxs : xs.map a.eval = vs) {R : Value → World → Prop} (hc : Calls P f vs w fun e w' => ∃ v, e = .returned v ∧ R v w') (hK : ∀ v w', R v w' → K (a.put (some d) v) w') : oi.wp P a w K Q := by
  unfold Oper.wp
  have hr : (execOp a.eval oi).run P w = .ok (.enter f vs) w := by
    have h2 : xs.map a.eval = vs := hxs
    simp [execOp, hop, resolve, invoke, Act.eval, Deferred.ofValue]
    have h3 := he (xs.map a.eval) w
    rw [h2] at h3
    rw [← h2] at h3 ⊢
    exact h3
  rw [hr, Oper.upon_enter]
  exact hc.mono (by rintro e w' ⟨v, rfl, h⟩; rw [hd]; exact hK _ _ h)
/-- A call that gives up. -/
theorem call_up {oi : Oper} {a : Act} {w : World} {K : Act → World → Prop} {f : FuncId} {xs : Array Operand} {ats : Array TypeId} (hop : oi.op = Op.call { callee := Callee.value (.func f), args := xs, argTypes := ats })
    (he : ∀ args w, (callFunc f args).run P w = .ok (.enter f args) w) {vs : Array Value} (hxs : xs.map a.eval = vs) {R : World → Prop} {c : List PanicEntry} (hc : Calls P f vs w fun e w' => e = .panicked c ∧ R w') (hQ : ∀ w', R w' → Q (.panic c) a w') : oi.wp P a w K Q := by
  unfold Oper.wp
  have hr : (execOp a.eval oi).run P w = .ok (.enter f vs) w := by
    have h2 : xs.map a.eval = vs := hxs
    simp [execOp, hop, resolve, invoke, Act.eval, Deferred.ofValue]
    have h3 := he (xs.map a.eval) w
    rw [h2] at h3
    rw [← h2] at h3 ⊢
    exact h3
  rw [hr, Oper.upon_enter]
  exact hc.mono (by rintro e w' ⟨rfl, h⟩; exact hQ _ h)
/-- A store whose run is known. -/
theorem op_skip {oi : Oper} {a : Act} {w w' : World} {K : Act → World → Prop} (hd : oi.dst = none) (hrun : (execOp a.eval oi).run P w = .ok .skip w') (hK : K a w') : oi.wp P a w K Q := by
  unfold Oper.wp
  rw [hrun, Oper.upon_skip, hd]
  exact hK
/-- Just two operations may come up. -/
theorem twoH {ops : Array Oper} {md : Region.Mode} {S : World → Prop} {i j : Nat} {oi oj : Oper} {fuel : Nat} {listed : Array Bool} {a : Act} {w : World} (hi : ops[i]? = some oi) (hj : ops[j]? = some oj) (hr : Region.ready md ops listed = [i, j]) (gi : oi.guard = none) (gj : oj.guard = none)
    (h1 : oi.wp P a w (fun a' w' => S w' ∧ wpAnyH P md ops Q S fuel (listed.setIfInBounds i true) a' w') Q) (h2 : oj.wp P a w (fun a' w' => S w' ∧ wpAnyH P md ops Q S fuel (listed.setIfInBounds j true) a' w') Q) : wpAnyH P md ops Q S (fuel + 1) listed a w := by
  refine wpAnyH_all hr (by simp) fun k hk => ?_
  rcases (by simpa using hk : k = i ∨ k = j) with rfl | rfl
  · unfold wpOp
    simp only [hi]
    rw [if_pos (by simp [Region.wanted, gi])]
    exact .inl h1
  · unfold wpOp
    simp only [hj]
    rw [if_pos (by simp [Region.wanted, gj])]
    exact .inl h2
end
end Go.Proofs.Ytbfkmakfkbdafaa

namespace Go.Proofs.Ytbfkmakfkbdafaa
set_option maxRecDepth 100000
open Go.ChangeShapes Go.WideShapes Go.ChangeAt Go.RowKit

/-- The payload in its box. -/
structure PyI (q : Nat) (L : List Int) (pv : Value) (w : World) : Prop where
  x : BX 27 w q #[pv]
  o : w.ownsRow q 5 1 pv L.length (L.map (Value.int .u8))
theorem PyI.shape {q : Nat} {L : List Int} {pv : Value} {w : World} (h : PyI q L pv w) : ∃ a n c, pv = .slice a n c := by
  rcases h.o.2 with ⟨hv, h0⟩ | ⟨g, cap, cur, hv, _⟩
  · exact ⟨none, 0, 0, hv⟩
  · exact ⟨_, _, _, hv⟩
theorem PyI.below {q : Nat} {L : List Int} {pv : Value} {w w' : World} (h : PyI q L pv w) (hb : Below w.heap.size w w') : PyI q L pv w' := ⟨h.x.below hb h.x.lt, own_below h.o hb (Nat.le_refl _)⟩
theorem putLen_le (n : Int) : (put n).length ≤ 10 := by have := put_len n; omega

set_option maxHeartbeats 2000000 in
set_option maxRecDepth 100000 in
theorem sPut_any (q : Nat) (pv : Value) (L : List Int) (av : Value) (ns : List Int) (w : World) (h : PyI q L pv w) (ha : w.ownsRow q 3 1 av ns.length (ns.flatMap encI)) (hn : ∀ n ∈ ns, 0 ≤ n ∧ n ≤ 9223372036854775807) (hl : L.length + 10 * ns.length ≤ 1000000) :
    Calls Try.prog 20 #[av, .pointer (some ⟨q, 0, none⟩)] w fun e w' => e = .returned (.tuple #[]) ∧ (∃ pv', PyI q (L ++ bytN ns) pv' w') ∧ Below q w w' := by
  have H0 : Hid (PyI q L pv w) := h
  have HA : Hid (w.ownsRow q 3 1 av ns.length (ns.flatMap encI)) := ha
  have HN : Hid (∀ n ∈ ns, 0 ≤ n ∧ n ≤ 9223372036854775807) := hn
  have HZ : Hid (L ++ bytN (ns.take 0) = L) := by show _ = _; simp [bytN]
  obtain ⟨aa, ac, rfl⟩ := (RowK.own encI_len ha : InR w av ns).shape
  have hq := h.x.lt
  clear h ha hn
  go_enter Try.func20, Try.ntmps20
  go_wp2_with fail
  go_loopw [7] (fun i wr => ∃ (k : Nat) (pv : Value), k ≤ ns.length ∧ i = .int .i64 k ∧ PyI q (L ++ bytN (ns.take k)) pv wr ∧ wr.ownsRow q 3 1 (.slice aa ns.length ac) ns.length (ns.flatMap encI) ∧ Below q w wr) (fun i _ => ns.length - (intOf i).toNat)
  case atStart => exact ⟨0, pv, by omega, rfl, by rw [HZ.out]; exact H0.out, HA.out, Below.refl _ _⟩
  case round =>
    clear H0 HA HZ
    obtain ⟨k, pv, hk, rfl, hpy, hoa, hbel⟩ := hrel
    have PY : Hid (PyI q (L ++ bytN (ns.take k)) pv wr) := hpy
    have OA : Hid (wr.ownsRow q 3 1 (.slice aa ns.length ac) ns.length (ns.flatMap encI)) := hoa
    have AB : Hid (Below q w wr) := hbel
    obtain ⟨pa, pn, pc, rfl⟩ := hpy.shape
    have hsr := hbel.size
    have hqr := hpy.x.lt
    clear hpy hoa hbel
    by_cases hlt : k < ns.length
    · obtain ⟨b, off, cap', e1, _, _, lt, hv⟩ := InR.at (RowK.own encI_len OA.out : InR wr (.slice aa ns.length ac) ns) (by omega)
      injection e1 with e1 _ e3
      subst e1 e3
      obtain ⟨x, hx⟩ := getX hlt
      have c1 := hv k x hx
      obtain ⟨hx0, hx1⟩ := HN.out x (List.mem_of_getElem? hx)
      have HT : Hid (L ++ bytN (ns.take (k + 1)) = (L ++ bytN (ns.take k)) ++ put x) := by show _ = _; rw [take_snoc hx, bytN_app, bytN_one, List.append_assoc]
      have hll : (L ++ bytN (ns.take k)).length ≤ 1000000 := by
        have h1 := bytN_len (ns.take k)
        have h2 : (ns.take k).length ≤ ns.length := by rw [List.length_take]; omega
        rw [List.length_append]
        omega
      have hpl := putLen_le x
      have p0 : (0 : Int) ≤ (k : Int) := by omega
      have p1 : (k : Int) < (ns.length : Int) := by omega
      have wx : IntKind.u64.wrap x = x := by rw [IntKind.wrap_u64]; omega
      have CP : Hid (∀ X, Calls Try.prog 21 #[.int .u64 x] X fun e w' => ∃ v, e = .returned v ∧ (w'.ownsRow X.heap.size 5 1 v (put x).length ((put x).map (Value.int .u8)) ∧ Below X.heap.size X w')) := fun X => put_any x X hx0 (by omega)
      have ep : ∀ args w, (callFunc 21 args).run Try.prog w = .ok (.enter 21 args) w := enters_of Try.func21 (by kernel_rfl) rfl
      have HS : Hid (∀ V, Below wr.heap.size wr V → (V.cell? ⟨q, 0, none⟩ = some (.slice pa pn pc))) := fun V hV => ((PY.out.below hV).x).cell 0
      generalize L ++ bytN (ns.take k) = M at *
      clear hv hx
      go_upto_region 3 with fail
      clear c1
      have bd : Below wr.heap.size wr wr.drew := (Below.refl _ _).drew
      have HS0 : Hid (wr.drew.cell? ⟨q, 0, none⟩ = some (.slice pa pn pc)) := HS.out _ bd
      refine region_lastF (S := fun V => (V.cell? ⟨q, 0, none⟩ = some (.slice pa pn pc))) (by kernel_rfl) rfl (by kernel_rfl) (by kernel_rfl) ?_
      simp only [List.pop_toArray, List.dropLast_cons_cons, List.dropLast_singleton, List.size_toArray, List.length_cons, List.length_nil, Nat.reduceAdd]
      refine takeH (i := 0) (v := .slice pa pn pc) (d := 11) rfl rfl (by kernel_rfl) (by kernel_rfl) (by kernel_rfl) (fun _ _ _ h => h) (by rfl) (fun V hV => by have v1 := hV; go_simp) HS0.out ?_
      simp only [Act.put, List.setIfInBounds_toArray, List.set_cons_zero, List.set_cons_succ]
      refine takeH (i := 1) (v := .int .i64 x) (d := 12) rfl rfl (by kernel_rfl) (by kernel_rfl) (by kernel_rfl) (fun _ _ _ h => h) (by rfl) (fun V hV => by have v1 := hV; go_simp) HS0.out ?_
      simp only [Act.put, List.setIfInBounds_toArray, List.set_cons_zero, List.set_cons_succ]
      refine takeH (i := 2) (v := .int .u64 x) (d := 13) rfl rfl (by kernel_rfl) (by kernel_rfl) (by kernel_rfl) (fun _ _ _ h => h) (by rfl) (fun V hV => by have v1 := hV; go_simp) HS0.out ?_
      simp only [Act.put, List.setIfInBounds_toArray, List.set_cons_zero, List.set_cons_succ]
      refine oneH (i := 3) rfl (by kernel_rfl) rfl (call_gets (d := 14) (f := 21) (xs := #[.tmp 13]) (ats := #[49]) rfl rfl ep (vs := #[.int .u64 x]) (by simp [Act.eval]) (CP.out _) ?_)
      rintro vr w3 ⟨ho3, hb3⟩
      have b3 : Below wr.heap.size wr w3 := bd.trans hb3
      have HS3 : Hid (w3.cell? ⟨q, 0, none⟩ = some (.slice pa pn pc)) := HS.out _ b3
      refine ⟨HS3.out, ?_⟩
      simp only [Act.put, List.setIfInBounds_toArray, List.set_cons_zero, List.set_cons_succ]
      have py3 := PY.out.below b3
      obtain ⟨v4, w4, hrun4, hown4, hg4⟩ := run_append_byt (w := w3) 27 q (.slice pa pn pc) M py3.o vr (put x) (reads_own ho3) (by omega) (by have := b3.size; omega)
      have x4 := py3.x.grown py3.o (by decide) hg4
      have HS4 : Hid (w4.cell? ⟨q, 0, none⟩ = some (.slice pa pn pc)) := x4.cell 0
      refine oneH (i := 4) rfl (by kernel_rfl) rfl (call_append (d := 15) (s := .tmp 11) (x := .tmp 14) (t := 27) rfl rfl rfl rfl hrun4 ⟨HS4.out, ?_⟩)
      simp only [Act.put, List.setIfInBounds_toArray, List.set_cons_zero, List.set_cons_succ]
      obtain ⟨ya, yn, yc, rfl⟩ : ∃ a n c, v4 = .slice a n c := by
        rcases hown4.2 with ⟨hv, h0⟩ | ⟨g, cap, cur, hv, _⟩
        · exact ⟨none, 0, 0, hv⟩
        · exact ⟨_, _, _, hv⟩
      have kp : Kept (fun k => k = q) w4 (w4.setCell ⟨q, 0, none⟩ (.slice ya yn yc)) := Kept.box _ _ _ _
      have oa4 : w4.ownsRow q 3 1 (.slice (some ⟨b, off, none⟩) ns.length ac) ns.length (ns.flatMap encI) := (own_below OA.out b3 (Nat.le_refl _)).kept hg4 (own_apart (own_below OA.out b3 (Nat.le_refl _)) py3.o (by decide))
      have b4 : Below q w w4 := AB.out.trans ((b3.mono (by omega)).grown hg4 (by have := b3.size; omega) (fun g hg => (own_ge py3.o hg).1))
      have NW : Hid (PyI q (M ++ put x) (.slice ya yn yc) (w4.setCell ⟨q, 0, none⟩ (.slice ya yn yc)) ∧ (w4.setCell ⟨q, 0, none⟩ (.slice ya yn yc)).ownsRow q 3 1 (.slice (some ⟨b, off, none⟩) ns.length ac) ns.length (ns.flatMap encI) ∧ Below q w (w4.setCell ⟨q, 0, none⟩ (.slice ya yn yc))) := ⟨⟨x4.set 0 _, own_off hown4 x4 (by decide) kp⟩, own_off oa4 x4 (by decide) kp, b4.trans (kp.below (by have := b4.size; omega) (fun g hg => by omega))⟩
      have f4 := x4.frozen 0
      have c4 := x4.cell 0
      refine wpAnyH_done (by kernel_rfl) ?_ _
      show Oper.wp _ _ _ _ _ _
      refine op_skip (w' := w4.setCell ⟨q, 0, none⟩ (.slice ya yn yc)) rfl (by go_simp) ?_
      clear HS0 HS3 HS4 HS f4 c4 b4 oa4 kp x4 hrun4 hown4 hg4 py3 ho3 hb3 b3 bd PY OA AB
      generalize w4.setCell ⟨q, 0, none⟩ (.slice ya yn yc) = w5 at *
      go_wp2_with fail
      go_roundw
      case rel => exact ⟨k + 1, _, by omega, by go_num, by rw [HT.out]; exact NW.out.1, NW.out.2.1, NW.out.2.2⟩
      case measure => simp [intOf]; omega
    · have ek : ns.take k = ns := List.take_of_length_le (by omega)
      rw [ek] at PY
      have HP : Hid ((∃ pv', PyI q (L ++ bytN ns) pv' wr) ∧ Below q w wr) := ⟨⟨_, PY.out⟩, AB.out⟩
      clear PY AB OA ek
      go_wp2_with fail
      go_end0
      exact ⟨rfl, HP.out⟩
end Go.Proofs.Ytbfkmakfkbdafaa

namespace Go.Proofs.Ytbfkmakfkbdafaa
set_option maxRecDepth 100000
open Go.ChangeShapes Go.WideShapes Go.ChangeAt Go.RowKit

theorem own_lit1 (w : World) (base : Nat) (hb : base ≤ w.heap.size) (x : Int) : (w.alloc (.cells #[.int .i64 x] 3)).ownsRow base 3 1 (.slice (some ⟨w.heap.size, 0, none⟩) 1 1) ([x] : List Int).length (([x] : List Int).flatMap encI) :=
  ⟨by simp [encI], .inr ⟨w.heap.size, 1, #[.int .i64 x], rfl, hb, heap_alloc_new w _, by simp, by simp [maxLen], by simp, by simp [encI]⟩⟩
theorem own_lit2 (w : World) (base : Nat) (hb : base ≤ w.heap.size) (x y : Int) : (w.alloc (.cells #[.int .i64 x, .int .i64 y] 3)).ownsRow base 3 1 (.slice (some ⟨w.heap.size, 0, none⟩) 2 2) ([x, y] : List Int).length (([x, y] : List Int).flatMap encI) :=
  ⟨by simp [encI], .inr ⟨w.heap.size, 2, #[.int .i64 x, .int .i64 y], rfl, hb, heap_alloc_new w _, by simp, by simp [maxLen], by simp, by simp [encI]⟩⟩
theorem own_lit4 (w : World) (base : Nat) (hb : base ≤ w.heap.size) (x y z u : Int) : (w.alloc (.cells #[.int .i64 x, .int .i64 y, .int .i64 z, .int .i64 u] 3)).ownsRow base 3 1 (.slice (some ⟨w.heap.size, 0, none⟩) 4 4) ([x, y, z, u] : List Int).length (([x, y, z, u] : List Int).flatMap encI) :=
  ⟨by simp [encI], .inr ⟨w.heap.size, 4, #[.int .i64 x, .int .i64 y, .int .i64 z, .int .i64 u], rfl, hb, heap_alloc_new w _, by simp, by simp [maxLen], by simp, by simp [encI]⟩⟩
theorem own_lenB {w : World} {base : Nat} {a : Option Addr} {n c : Nat} {l : List Int} (h : w.ownsRow base 5 1 (.slice a n c) l.length (l.map (Value.int .u8))) : n = l.length := by
  rcases h.2 with ⟨hv, h0⟩ | ⟨g, cap, cur, hv, _⟩
  · injection hv with _ h1 _; omega
  · injection hv with _ h1 _
/-- What Encode answers. -/
def BytP2 (w : World) (r : List Int × Int) (e : Ending) (w' : World) : Prop := ∃ v', e = .returned (.tuple #[v', .int .i64 r.2]) ∧ w'.ownsRow w.heap.size 5 1 v' r.1.length (r.1.map (Value.int .u8)) ∧ Below w.heap.size w w'
theorem BytP2.no {w w' : World} {f : Int} (hb : Below w.heap.size w w') : BytP2 w ([], f) (.returned (.tuple #[.slice none 0 0, .int .i64 f])) w' := ⟨_, rfl, World.ownsRow_nil _ _ _ _, hb⟩

set_option maxHeartbeats 8000000 in
set_option maxRecDepth 100000 in
theorem sEnc_any (s : SvS) (vv vm : Value) (w : World) (hv : MlR w vv s.vals) (hm : MlR w vm s.mail) (hB : ∀ x ∈ s.mail, mlB x) :
    Calls Try.prog 7 #[.agg #[.int .i64 s.step, .int .i64 s.phase, .bool s.fresh, vv, vm]] w (BytP2 w (encS s)) := by
  have HV : Hid (MlR w vv s.vals) := hv
  have HM : Hid (MlR w vm s.mail) := hm
  have CM : Hid (∀ X, MlR X vv s.vals → MlR X vm s.mail → Calls Try.prog 19 #[.agg #[.int .i64 s.step, .int .i64 s.phase, .bool s.fresh, vv, vm]] X fun e w' => e = .returned (.bool (svMay s)) ∧ Below X.heap.size X w') := fun X h1 h2 => sMayBe_any s vv vm X h1 h2 hB
  obtain ⟨va, vc, rfl, hvc, hvm, _, _⟩ := hv
  obtain ⟨ma, mc, rfl, hmc, hmm, _, _⟩ := hm
  unfold maxLen at hvm hmm
  have EN : Hid (svMay s = false → encS s = ([], 9)) := encS_no
  have EB : Hid (svMay s = true → ¬ (bytN (numsS s)).length ≤ 20000 → encS s = ([], 1)) := encS_big
  have EY : Hid (svMay s = true → (bytN (numsS s)).length ≤ 20000 → encS s = (wrap (bytN (numsS s)), 0)) := encS_yes
  have NI : Hid (svMay s = true → ∀ n ∈ numsS s, 0 ≤ n ∧ n ≤ 4398046511105) := numsS_in
  have NB : Hid (svMay s = true → (0 ≤ s.step ∧ s.step ≤ 100000) ∧ (s.phase = 0 ∨ s.phase = 1) ∧ s.vals.length ≤ 200 ∧ s.mail.length ≤ 5000 ∧ (∀ x ∈ s.vals, -1 ≤ x.1 ∧ x.1 ≤ 4398046511104 ∧ -1 ≤ x.2 ∧ x.2 < 200) ∧ (∀ x ∈ s.mail, 0 ≤ x.1 ∧ x.1 < 200 ∧ 0 ≤ x.2 ∧ x.2 ≤ 4398046511104)) := fun h => by
    obtain ⟨⟨h1, h2, h3⟩, h4, h5, h6, _, h7⟩ := svMay_iff.1 h
    exact ⟨⟨h1, h2⟩, h3, h4, h6, fun x hx => valS_iff.1 (valA_iff.1 h5 x hx), fun x hx => mayM_iff.1 (mayA_iff.1 h7 x hx)⟩
  have NE : Hid (bytN (numsS s) = (((bytN [s.step, s.phase, if s.fresh then 1 else 0, (s.vals.length : Int)]) ++ bytN (pairN 1 s.vals)) ++ bytN [(s.mail.length : Int)]) ++ bytN (pairN 0 s.mail)) := by
    show _ = _
    unfold numsS
    rw [bytN_app, bytN_app, bytN_app, List.append_assoc, List.append_assoc]
  have NL : Hid ((bytN (numsS s)).length ≤ 10 * (5 + 2 * s.vals.length + 2 * s.mail.length)) := by
    have := bytN_len (numsS s)
    rw [numsS_len] at this
    exact this
  have BY : Hid (svMay s = true → ∀ x ∈ bytN (numsS s), 0 ≤ x ∧ x ≤ 255) := fun h => bytN_bytes (fun n hn => ⟨(numsS_in h n hn).1, by have := (numsS_in h n hn).2; omega⟩)
  generalize encS s = R at *
  generalize svMay s = r at *
  generalize hNN : bytN (numsS s) = NN at *
  generalize numsS s = nums at *
  clear hNN
  obtain ⟨st, ph, fr, vs, ms⟩ := s
  simp only at HV HM CM hvc hvm hmc hmm NB NE NL ⊢
  clear hB
  have X0 : BX 25 (w.alloc (.cells #[.int .i64 st, .int .i64 ph, .bool fr, .slice va vs.length vc, .slice ma ms.length mc] 25)) w.heap.size #[.int .i64 st, .int .i64 ph, .bool fr, .slice va vs.length vc, .slice ma ms.length mc] := BX.new _ _ _
  have B0 : Below w.heap.size w (w.alloc (.cells #[.int .i64 st, .int .i64 ph, .bool fr, .slice va vs.length vc, .slice ma ms.length mc] 25)) := below_alloc _ _
  go_enter Try.func7, Try.ntmps7
  go_upto_region 1 with fail
  generalize w.alloc (.cells #[.int .i64 st, .int .i64 ph, .bool fr, .slice va vs.length vc, .slice ma ms.length mc] 25) = W0 at *
  have HK0 : Hid (∀ X, Below W0.heap.size W0 X → BX 25 X w.heap.size #[.int .i64 st, .int .i64 ph, .bool fr, .slice va vs.length vc, .slice ma ms.length mc] ∧ Below w.heap.size w X ∧ MlR X (.slice va vs.length vc) vs ∧ MlR X (.slice ma ms.length mc) ms) := fun X hX => ⟨X0.below hX X0.lt, B0.trans (hX.mono B0.size), HV.out.below (B0.trans (hX.mono B0.size)) (Nat.le_refl _), HM.out.below (B0.trans (hX.mono B0.size)) (Nat.le_refl _)⟩
  have A0 : Hid (Below W0.heap.size W0 W0) := Below.refl _ _
  obtain ⟨c0, c1, c2, c3, c4⟩ := X0.all5
  clear X0 B0 HV HM
  go_wp2_with fail
  refine (CM.out _ (HK0.out _ A0.out).2.2.1 (HK0.out _ A0.out).2.2.2).mono ?_
  rintro e W1 ⟨rfl, hb1⟩
  have A1 : Hid (Below W0.heap.size W0 W1) := hb1
  obtain ⟨Q1, bw1, _, _⟩ := HK0.out _ hb1
  have BW1 : Hid (Below w.heap.size w W1) := bw1
  clear c0 c1 c2 c3 c4 hb1 bw1 CM
  obtain ⟨c0, c1, c2, c3, c4⟩ := Q1.all5
  clear Q1
  cases r
  · have e := EN.out rfl
    subst e
    have HP : Hid (BytP2 w ([], 9) (.returned (.tuple #[.slice none 0 0, .int .i64 9])) W1) := BytP2.no BW1.out
    clear EN EB EY NI NB NE NL BY
    generalize BytP2 w ([], 9) = P at *
    go_wp2_with fail
    exact HP.out
  · obtain ⟨⟨hs0, hs1⟩, hph, hvl, hml, hvb, hmb⟩ := NB.out rfl
    have HVB : Hid (∀ x ∈ vs, -1 ≤ x.1 ∧ x.1 ≤ 4398046511104 ∧ -1 ≤ x.2 ∧ x.2 < 200) := hvb
    have HMB : Hid (∀ x ∈ ms, 0 ≤ x.1 ∧ x.1 < 200 ∧ 0 ≤ x.2 ∧ x.2 ≤ 4398046511104) := hmb
    have EB2 : Hid (¬ NN.length ≤ 20000 → R = ([], 1)) := EB.out rfl
    have EY2 : Hid (NN.length ≤ 20000 → R = (wrap NN, 0)) := EY.out rfl
    have hnl := NL.out
    have HNB : Hid (∀ x ∈ NN, 0 ≤ x ∧ x ≤ 255) := BY.out rfl
    have hphb : 0 ≤ ph ∧ ph ≤ 1 := by omega
    clear hph hvb hmb EN EB EY NI NB NL BY
    have W2 : Hid (PyI W1.heap.size [] (.slice none 0 0) (W1.alloc (.cells #[.slice none 0 0] 27)) ∧ Below W1.heap.size W1 (W1.alloc (.cells #[.slice none 0 0] 27))) := ⟨⟨BX.new _ _ _, World.ownsRow_nil _ _ _ _⟩, below_alloc _ _⟩
    go_upto_region 4 with fail
    generalize W1.alloc (.cells #[.slice none 0 0] 27) = W3 at *
    have HK : Hid (∀ X, Below W1.heap.size W1 X → BX 25 X w.heap.size #[.int .i64 st, .int .i64 ph, .bool fr, .slice va vs.length vc, .slice ma ms.length mc] ∧ Below w.heap.size w X ∧ MlR X (.slice va vs.length vc) vs ∧ MlR X (.slice ma ms.length mc) ms) := fun X hX => HK0.out X (A1.out.trans (hX.mono A1.out.size))
    have hqw := BW1.out.size
    clear HK0 A0 A1 BW1
    generalize hqe : W1.heap.size = q at *
    obtain ⟨py3, b3⟩ := W2.out
    have PY3 : Hid (PyI q [] (.slice none 0 0) W3) := py3
    have A3 : Hid (Below q W1 W3) := b3
    have HS1 : Hid (W1.heap.size = q) := hqe
    obtain ⟨Q3, _, _, _⟩ := HK.out _ b3
    clear c0 c1 c2 c3 c4 py3 b3 W2 hqe
    obtain ⟨c0, c1, c2, c3, c4⟩ := Q3.all5
    clear Q3
    go_upto_if 16 with fail
    obtain ⟨fz, hfz⟩ : ∃ z : Int, (if fr then (1 : Int) else 0) = z := ⟨_, rfl⟩
    have HFZ : Hid ((if fr then (1 : Int) else 0) = fz) := hfz
    have hfb : 0 ≤ fz ∧ fz ≤ 1 := by rw [← hfz]; cases fr <;> decide
    rw [hfz] at NE
    clear hfz
    go_cut [6] from 16 to 16 (fun t wx => t = .int .i64 fz ∧ W3 = wx)
    case first =>
      cases fr
      · have e : Hid (Value.int .i64 0 = .int .i64 fz) := by show _ = _; rw [← HFZ.out]; rfl
        clear HFZ
        go_wp2_with fail
        go_meet
        case rel => exact ⟨e.out, rfl⟩
      · have e : Hid (Value.int .i64 1 = .int .i64 fz) := by show _ = _; rw [← HFZ.out]; rfl
        clear HFZ
        go_wp2_with fail
        go_meet
        case rel => exact ⟨e.out, rfl⟩
    case rest =>
    obtain ⟨rfl, rfl⟩ := hcut
    clear HFZ
    have W4 : Hid (PyI q [] (.slice none 0 0) (W3.alloc (.cells #[.int .i64 st, .int .i64 ph, .int .i64 fz, .int .i64 (vs.length : Int)] 3)) ∧ (W3.alloc (.cells #[.int .i64 st, .int .i64 ph, .int .i64 fz, .int .i64 (vs.length : Int)] 3)).ownsRow q 3 1 (.slice (some ⟨W3.heap.size, 0, none⟩) 4 4) ([st, ph, fz, (vs.length : Int)] : List Int).length (([st, ph, fz, (vs.length : Int)] : List Int).flatMap encI) ∧ Below q W1 (W3.alloc (.cells #[.int .i64 st, .int .i64 ph, .int .i64 fz, .int .i64 (vs.length : Int)] 3))) := ⟨PY3.out.below (below_alloc _ _), own_lit4 W3 q (Nat.le_of_lt PY3.out.x.lt) _ _ _ _, A3.out.alloc (Nat.le_of_lt PY3.out.x.lt) _⟩
    go_wp2_with fail
    generalize W3.alloc (.cells #[.int .i64 st, .int .i64 ph, .int .i64 fz, .int .i64 (vs.length : Int)] 3) = W5 at *
    refine (sPut_any q _ [] _ [st, ph, fz, (vs.length : Int)] W5 W4.out.1 W4.out.2.1 (fun n hn => by simp only [List.mem_cons, List.not_mem_nil, or_false] at hn; omega) (by simp)).mono ?_
    rintro e W6 ⟨rfl, ⟨pv6, hpy6⟩, hb6⟩
    have PY6 : Hid (PyI q (bytN [st, ph, fz, (vs.length : Int)]) pv6 W6) := hpy6
    have A6 : Hid (Below q W1 W6) := W4.out.2.2.trans hb6
    have HL0 : Hid ((bytN [st, ph, fz, (vs.length : Int)]).length ≤ 40) := bytN_len _
    clear hpy6 hb6 W4 PY3 A3 c0 c1 c2 c3 c4
    obtain ⟨Q6, _, _, _⟩ := HK.out _ A6.out
    obtain ⟨c0, c1, c2, c3, c4⟩ := Q6.all5
    clear Q6
    generalize bytN [st, ph, fz, (vs.length : Int)] = N0 at *
    go_wp2_with fail
    have HZ0 : Hid (N0 ++ bytN (pairN 1 (vs.take 0)) = N0) := by show _ = _; simp [pairN, bytN]
    have HLV : Hid (∀ k, k ≤ vs.length → (N0 ++ bytN (pairN 1 (vs.take k))).length ≤ 40 + 20 * vs.length) := fun k hk => by
      have h1 := bytN_len (pairN 1 (vs.take k))
      have h2 := HL0.out
      rw [pairN_len, List.length_take] at h1
      rw [List.length_append]
      omega
    go_loopw [31] (fun i wr => ∃ (k : Nat) (pv : Value), k ≤ vs.length ∧ i = .int .i64 k ∧ PyI q (N0 ++ bytN (pairN 1 (vs.take k))) pv wr ∧ Below q W1 wr) (fun i _ => vs.length - (intOf i).toNat)
    case atStart => exact ⟨0, pv6, by omega, rfl, by rw [HZ0.out]; exact PY6.out, A6.out⟩
    case round =>
      clear PY6 A6 HZ0 c0 c1 c2 c3 c4
      obtain ⟨k, pv, hk, rfl, hpy, hbel⟩ := hrel
      have PY : Hid (PyI q (N0 ++ bytN (pairN 1 (vs.take k))) pv wr) := hpy
      have AB : Hid (Below q W1 wr) := hbel
      have hqr := hpy.x.lt
      have hll := HLV.out k hk
      obtain ⟨Q7, _, MV, _⟩ := HK.out _ hbel
      clear hpy hbel
      by_cases hlt : k < vs.length
      · obtain ⟨bv, ov, cv', e5, _, _, ltv, hvv⟩ := MlR.at MV (by omega)
        injection e5 with e5 _ e6
        subst e5 e6
        obtain ⟨x, hx⟩ := getX hlt
        obtain ⟨y0, y1⟩ := hvv k x hx
        obtain ⟨g1, g2, g3, g4⟩ := HVB.out x (List.mem_of_getElem? hx)
        have HT : Hid (N0 ++ bytN (pairN 1 (vs.take (k + 1))) = (N0 ++ bytN (pairN 1 (vs.take k))) ++ bytN [x.1 + 1, x.2 + 1]) := by show _ = _; rw [take_snoc hx, pairN_app, pairN_one, bytN_app, List.append_assoc]
        have p0 : (0 : Int) ≤ (k : Int) := by omega
        have p1 : (k : Int) < (vs.length : Int) := by omega
        have w1 : IntKind.i64.wrap (x.1 + 1) = x.1 + 1 := wrap_id64 (by omega) (by omega)
        have w2 : IntKind.i64.wrap (x.2 + 1) = x.2 + 1 := wrap_id64 (by omega) (by omega)
        obtain ⟨x1, x2⟩ := x
        simp only at y0 y1 g1 g2 g3 g4 HT w1 w2
        generalize N0 ++ bytN (pairN 1 (vs.take k)) = M at *
        have xb : BX 52 (wr.alloc (.cells #[.int .i64 x1, .int .i64 x2] 52)) wr.heap.size #[.int .i64 x1, .int .i64 x2] := BX.new _ _ _
        have W8 : Hid (PyI q M pv (wr.alloc (.cells #[.int .i64 x1, .int .i64 x2] 52)) ∧ Below q W1 (wr.alloc (.cells #[.int .i64 x1, .int .i64 x2] 52))) := ⟨PY.out.below (below_alloc _ _), AB.out.alloc (Nat.le_of_lt hqr) _⟩
        clear hvv hx Q7 MV PY AB
        go_upto_region 12 with fail
        obtain ⟨m0, m1, _⟩ := xb.all2
        generalize wr.alloc (.cells #[.int .i64 x1, .int .i64 x2] 52) = W9 at *
        generalize wr.heap.size = bx at *
        obtain ⟨py9, b9⟩ := W8.out
        have W10 : Hid (PyI q M pv (W9.alloc (.cells #[.int .i64 (x1 + 1), .int .i64 (x2 + 1)] 3)) ∧ (W9.alloc (.cells #[.int .i64 (x1 + 1), .int .i64 (x2 + 1)] 3)).ownsRow q 3 1 (.slice (some ⟨W9.heap.size, 0, none⟩) 2 2) ([x1 + 1, x2 + 1] : List Int).length (([x1 + 1, x2 + 1] : List Int).flatMap encI) ∧ Below q W1 (W9.alloc (.cells #[.int .i64 (x1 + 1), .int .i64 (x2 + 1)] 3))) := ⟨py9.below (below_alloc _ _), own_lit2 W9 q (Nat.le_of_lt py9.x.lt) _ _, b9.alloc (Nat.le_of_lt py9.x.lt) _⟩
        clear xb y0 y1 py9 b9 W8
        go_wp2_with fail
        generalize W9.alloc (.cells #[.int .i64 (x1 + 1), .int .i64 (x2 + 1)] 3) = W11 at *
        refine (sPut_any q _ M _ [x1 + 1, x2 + 1] W11 W10.out.1 W10.out.2.1 (fun n hn => by simp only [List.mem_cons, List.not_mem_nil, or_false] at hn; omega) (by simp only [List.length_cons, List.length_nil]; omega)).mono ?_
        rintro e W12 ⟨rfl, ⟨pv12, hpy12⟩, hb12⟩
        have PYN : Hid (PyI q (M ++ bytN [x1 + 1, x2 + 1]) pv12 W12) := hpy12
        have AN : Hid (Below q W1 W12) := W10.out.2.2.trans hb12
        clear hpy12 hb12 W10 m0 m1
        go_wp2_with fail
        go_roundw
        case rel => exact ⟨k + 1, pv12, by omega, by go_num, by rw [HT.out]; exact PYN.out, AN.out⟩
        case measure => simp [intOf]; omega
      · have ek : vs.take k = vs := List.take_of_length_le (by omega)
        rw [ek] at PY hll
        obtain ⟨V7, rfl⟩ : ∃ V, V = wr := ⟨wr, rfl⟩
        obtain ⟨c0, c1, c2, c3, c4⟩ := Q7.all5
        generalize N0 ++ bytN (pairN 1 vs) = N1 at *
        have W13 : Hid (PyI q N1 pv (V7.alloc (.cells #[.int .i64 (ms.length : Int)] 3)) ∧ (V7.alloc (.cells #[.int .i64 (ms.length : Int)] 3)).ownsRow q 3 1 (.slice (some ⟨V7.heap.size, 0, none⟩) 1 1) ([(ms.length : Int)] : List Int).length (([(ms.length : Int)] : List Int).flatMap encI) ∧ Below q W1 (V7.alloc (.cells #[.int .i64 (ms.length : Int)] 3))) := ⟨PY.out.below (below_alloc _ _), own_lit1 V7 q (Nat.le_of_lt hqr) _, AB.out.alloc (Nat.le_of_lt hqr) _⟩
        clear ek Q7 MV PY AB HLV HVB
        go_wp2_with fail
        generalize V7.alloc (.cells #[.int .i64 (ms.length : Int)] 3) = W14 at *
        refine (sPut_any q _ N1 _ [(ms.length : Int)] W14 W13.out.1 W13.out.2.1 (fun n hn => by simp only [List.mem_cons, List.not_mem_nil, or_false] at hn; omega) (by simp only [List.length_cons, List.length_nil]; omega)).mono ?_
        rintro e W15 ⟨rfl, ⟨pv15, hpy15⟩, hb15⟩
        have PY15 : Hid (PyI q (N1 ++ bytN [(ms.length : Int)]) pv15 W15) := hpy15
        have A15 : Hid (Below q W1 W15) := W13.out.2.2.trans hb15
        have HL1 : Hid ((N1 ++ bytN [(ms.length : Int)]).length ≤ 50 + 20 * vs.length) := by
          have h1 := bytN_len [(ms.length : Int)]
          show _ ≤ _
          rw [List.length_append]
          simp only [List.length_cons, List.length_nil] at h1
          omega
        clear hpy15 hb15 W13 c0 c1 c2 c3 c4
        obtain ⟨Q15, _, _, _⟩ := HK.out _ A15.out
        obtain ⟨c0, c1, c2, c3, c4⟩ := Q15.all5
        clear Q15
        generalize N1 ++ bytN [(ms.length : Int)] = N2 at *
        go_wp2_with fail
        have HZ2 : Hid (N2 ++ bytN (pairN 0 (ms.take 0)) = N2) := by show _ = _; simp [pairN, bytN]
        have HLM : Hid (∀ k, k ≤ ms.length → (N2 ++ bytN (pairN 0 (ms.take k))).length ≤ 50 + 20 * vs.length + 20 * ms.length) := fun k hk => by
          have h1 := bytN_len (pairN 0 (ms.take k))
          have h2 := HL1.out
          rw [pairN_len, List.length_take] at h1
          rw [List.length_append]
          omega
        go_loopw [54] (fun i wr => ∃ (k : Nat) (pv : Value), k ≤ ms.length ∧ i = .int .i64 k ∧ PyI q (N2 ++ bytN (pairN 0 (ms.take k))) pv wr ∧ Below q W1 wr) (fun i _ => ms.length - (intOf i).toNat)
        case atStart => exact ⟨0, pv15, by omega, rfl, by rw [HZ2.out]; exact PY15.out, A15.out⟩
        case round =>
          clear PY15 A15 HZ2 c0 c1 c2 c3 c4
          obtain ⟨k, pv, hk, rfl, hpy, hbel⟩ := hrel
          have PY : Hid (PyI q (N2 ++ bytN (pairN 0 (ms.take k))) pv wr) := hpy
          have AB : Hid (Below q W1 wr) := hbel
          have hqr := hpy.x.lt
          have hll2 := HLM.out k hk
          obtain ⟨Q7, BW7, _, MM⟩ := HK.out _ hbel
          have hpv := hpy.shape
          clear hpy hbel
          by_cases hlt : k < ms.length
          · obtain ⟨bv, ov, cv', e5, _, _, ltv, hvv⟩ := MlR.at MM (by omega)
            injection e5 with e5 _ e6
            subst e5 e6
            obtain ⟨x, hx⟩ := getX hlt
            obtain ⟨y0, y1⟩ := hvv k x hx
            obtain ⟨g1, g2, g3, g4⟩ := HMB.out x (List.mem_of_getElem? hx)
            have HT : Hid (N2 ++ bytN (pairN 0 (ms.take (k + 1))) = (N2 ++ bytN (pairN 0 (ms.take k))) ++ bytN [x.1, x.2]) := by show _ = _; rw [take_snoc hx, pairN_app, pairN_one, bytN_app, List.append_assoc, Int.add_zero, Int.add_zero]
            have p0 : (0 : Int) ≤ (k : Int) := by omega
            have p1 : (k : Int) < (ms.length : Int) := by omega
            obtain ⟨x1, x2⟩ := x
            simp only at y0 y1 g1 g2 g3 g4 HT
            generalize N2 ++ bytN (pairN 0 (ms.take k)) = M at *
            have xb : BX 54 (wr.alloc (.cells #[.int .i64 x1, .int .i64 x2] 54)) wr.heap.size #[.int .i64 x1, .int .i64 x2] := BX.new _ _ _
            have W8 : Hid (PyI q M pv (wr.alloc (.cells #[.int .i64 x1, .int .i64 x2] 54)) ∧ Below q W1 (wr.alloc (.cells #[.int .i64 x1, .int .i64 x2] 54))) := ⟨PY.out.below (below_alloc _ _), AB.out.alloc (Nat.le_of_lt hqr) _⟩
            clear hvv hx Q7 MM PY AB BW7 hpv
            go_upto_region 18 with fail
            obtain ⟨m0, m1, _⟩ := xb.all2
            generalize wr.alloc (.cells #[.int .i64 x1, .int .i64 x2] 54) = W9 at *
            generalize wr.heap.size = bx at *
            obtain ⟨py9, b9⟩ := W8.out
            have W10 : Hid (PyI q M pv (W9.alloc (.cells #[.int .i64 x1, .int .i64 x2] 3)) ∧ (W9.alloc (.cells #[.int .i64 x1, .int .i64 x2] 3)).ownsRow q 3 1 (.slice (some ⟨W9.heap.size, 0, none⟩) 2 2) ([x1, x2] : List Int).length (([x1, x2] : List Int).flatMap encI) ∧ Below q W1 (W9.alloc (.cells #[.int .i64 x1, .int .i64 x2] 3))) := ⟨py9.below (below_alloc _ _), own_lit2 W9 q (Nat.le_of_lt py9.x.lt) _ _, b9.alloc (Nat.le_of_lt py9.x.lt) _⟩
            clear xb y0 y1 py9 b9 W8
            go_wp2_with fail
            generalize W9.alloc (.cells #[.int .i64 x1, .int .i64 x2] 3) = W11 at *
            refine (sPut_any q _ M _ [x1, x2] W11 W10.out.1 W10.out.2.1 (fun n hn => by simp only [List.mem_cons, List.not_mem_nil, or_false] at hn; omega) (by simp only [List.length_cons, List.length_nil]; omega)).mono ?_
            rintro e W12 ⟨rfl, ⟨pv12, hpy12⟩, hb12⟩
            have PYN : Hid (PyI q (M ++ bytN [x1, x2]) pv12 W12) := hpy12
            have AN : Hid (Below q W1 W12) := W10.out.2.2.trans hb12
            clear hpy12 hb12 W10 m0 m1
            go_wp2_with fail
            go_roundw
            case rel => exact ⟨k + 1, pv12, by omega, by go_num, by rw [HT.out]; exact PYN.out, AN.out⟩
            case measure => simp [intOf]; omega
          · have ek : ms.take k = ms := List.take_of_length_le (by omega)
            rw [ek] at PY
            rw [← NE.out] at PY
            obtain ⟨pa, pn, pc, rfl⟩ := hpv
            have pq := PY.out.x.cell 0
            have hpn : pn = NN.length := own_lenB PY.out.o
            have HB7 : Hid (Below w.heap.size w wr) := BW7
            have RN : Hid (Reads .u8 wr (.slice pa pn pc) NN) := reads_own PY.out.o
            subst hpn
            clear ek Q7 MM AB NE HLM HMB
            by_cases hsz : NN.length ≤ 20000
            · have HRE : Hid (R = (wrap NN, 0)) := EY2.out hsz
              have CW : Hid (∀ X, X = wr → _) := fun X (_ : X = wr) => wrap_any (.slice pa NN.length pc) NN wr RN.out HNB.out hsz
              clear EB2 EY2
              go_wp2_with fail
              refine (CW.out _ rfl).mono ?_
              rintro e W9 ⟨v9, rfl, ho9, hb9⟩
              have HP : Hid (BytP2 w R (.returned (.tuple #[v9, .int .i64 0])) W9) := by
                show BytP2 _ _ _ _
                rw [HRE.out]
                exact ⟨_, rfl, own_lower ho9 HB7.out.size, HB7.out.trans (hb9.mono HB7.out.size)⟩
              clear ho9 hb9 CW
              generalize BytP2 w R = P at *
              go_wp2_with fail
              exact HP.out
            · have HRE : Hid (R = ([], 1)) := EB2.out hsz
              have CW : Hid (∀ X, X = wr → _) := fun X (_ : X = wr) => wrap_over pa NN.length pc wr (by omega)
              clear EB2 EY2
              go_wp2_with fail
              refine (CW.out _ rfl).mono ?_
              rintro e W9 ⟨rfl, rfl⟩
              have HP : Hid (BytP2 w R (.returned (.tuple #[.slice none 0 0, .int .i64 1])) W9) := by
                show BytP2 _ _ _ _
                rw [HRE.out]
                exact BytP2.no HB7.out
              clear CW
              generalize BytP2 w R = P at *
              go_wp2_with fail
              exact HP.out
end Go.Proofs.Ytbfkmakfkbdafaa

namespace Go.Proofs.Ytbfkmakfkbdafaa
set_option maxRecDepth 100000
open Go.ChangeShapes Go.WideShapes Go.ChangeAt Go.RowKit Go.Sort

/-- x stands ahead of y. -/
def aheadMB (x y : Ml) : Bool := if x.1 ≠ y.1 then decide (x.1 < y.1) else decide (x.2 < y.2)
theorem aheadM_lt (x y : Ml) : aheadMB x y = ltMb x y := by
  unfold aheadMB ltMb
  by_cases h1 : x.1 ≠ y.1
  · rw [if_pos h1]; congr 1; exact propext ⟨fun h => by omega, fun h => by omega⟩
  · rw [if_neg h1]; congr 1; exact propext ⟨fun h => by omega, fun h => by omega⟩

set_option maxHeartbeats 1000000 in
theorem aheadM_any (x y : Ml) (w : World) : Calls Try.prog 70 #[.agg #[.int .i64 x.1, .int .i64 x.2], .agg #[.int .i64 y.1, .int .i64 y.2]] w fun e w' => e = .returned (.bool (ltMb x y)) ∧ Below w.heap.size w w' := by
  rw [← aheadM_lt]
  obtain ⟨a0, a1⟩ := x
  obtain ⟨b0, b1⟩ := y
  unfold aheadMB
  simp only
  have hb : ∀ o1 o2, Below w.heap.size w ((w.alloc o1).alloc o2) := fun o1 o2 => (below_alloc w o1).alloc (by simp) o2
  by_cases h1 : a0 = b0
  · rw [if_neg (by simpa using h1)]
    have e1 : (a0 != b0) = false := by simpa using h1
    clear h1
    go_enter Try.func70, Try.ntmps70
    go_wp2_with fail
    go_ret
    exact ⟨rfl, hb _ _⟩
  · rw [if_pos h1]
    have e1 : (a0 != b0) = true := by simpa using h1
    clear h1
    go_enter Try.func70, Try.ntmps70
    go_wp2_with fail
    go_ret
    exact ⟨rfl, hb _ _⟩

set_option maxHeartbeats 1000000 in
set_option maxRecDepth 100000 in
theorem isOrdered_any (v : Value) (l : List Ml) (w : World) (h : MlR w v l) :
    Calls Try.prog 51 #[v] w fun e w' => e = .returned (.bool (srtMb l)) ∧ Below w.heap.size w w' := by
  have HR : Hid (MlR w v l) := h
  obtain ⟨a, cap, rfl, hc, hm, _, _⟩ := h
  unfold maxLen at hm
  have HT : Hid (SrtM l → srtMb l = true) := (srtMb_iff l).2
  have HF : Hid (¬ SrtM l → srtMb l = false) := srtMb_false.2
  generalize srtMb l = r at *
  go_enter Try.func51, Try.ntmps51
  go_wp2_with fail
  go_loopw [3] (fun i wr => ∃ k : Nat, k ≤ l.length ∧ i = .int .i64 ((k : Int) + 1) ∧ (∀ i x y, i < k → l[i]? = some x → l[i + 1]? = some y → ¬ ltM y x) ∧ Below w.heap.size w wr) (fun i _ => l.length + 1 - (intOf i).toNat)
  case atStart => exact ⟨0, by omega, rfl, fun i x y hi => by omega, Below.refl _ _⟩
  case round =>
    obtain ⟨k, hk, rfl, hs, hbel⟩ := hrel
    have HS : Hid (∀ i x y, i < k → l[i]? = some x → l[i + 1]? = some y → ¬ ltM y x) := hs
    have HB : Hid (Below w.heap.size w wr) := hbel
    have hsr := hbel.size
    clear hs hbel
    by_cases hlt : k + 1 < l.length
    · obtain ⟨b, off, cap', e1, _, _, lb, hv⟩ := MlR.at (HR.out.below HB.out (Nat.le_refl _)) (by omega)
      injection e1 with e1 _ e3
      subst e1 e3
      obtain ⟨x, hx⟩ := getX hlt
      obtain ⟨y, hy⟩ := getX (show k < l.length by omega)
      obtain ⟨x1, x2⟩ := hv _ _ hx
      obtain ⟨y1, y2⟩ := hv _ _ hy
      have g1 := cell_regrown x1
      have g2 := cell_regrown x2
      have g3 := cell_regrown y1
      have g4 := cell_regrown y2
      have HN : Hid (¬ ltM x y → ∀ i a b, i < k + 1 → l[i]? = some a → l[i + 1]? = some b → ¬ ltM b a) := fun h i a b hi ha hb2 => by
        by_cases e : i = k
        · subst e
          rw [hy] at ha
          rw [hx] at hb2
          injection ha with ha
          injection hb2 with hb2
          subst ha hb2
          exact h
        · exact HS.out i a b (by omega) ha hb2
      have HRR : Hid (ltM x y → r = false) := fun h => HF.out fun h2 => h2 k y x hy hx h
      have EE : ∀ d os, Calls Try.prog 70 #[.agg #[.int .i64 x.1, .int .i64 x.2], .agg #[.int .i64 y.1, .int .i64 y.2]] (grow (redrawn wr d) os) fun e w'' => e = .returned (.bool (ltMb x y)) ∧ ∃ p : Regrown, w'' = grow (redrawn wr p.d) p.os := fun d os => Calls.regrown_of (aheadM_any x y _)
      have HLT : Hid ((ltMb x y = true → ltM x y) ∧ (ltMb x y = false → ¬ ltM x y)) := ⟨ltMb_true.1, ltMb_false.1⟩
      generalize ltMb x y = c at *
      have i1 : (k : Int) + 1 < (l.length : Int) := by omega
      have i2 : (k : Int) < (l.length : Int) := by omega
      have i3 : (0 : Int) ≤ (k : Int) := by omega
      have i4 : (0 : Int) ≤ (k : Int) + 1 := by omega
      have i5 : (k : Int) + 1 - 1 = (k : Int) := by omega
      have i6 : IntKind.i64.wrap (k : Int) = (k : Int) := wrap_id64 (by omega) (by omega)
      have i7 : IntKind.i64.wrap ((k : Int) + 1 + 1) = (k : Int) + 1 + 1 := wrap_id64 (by omega) (by omega)
      have HSX : Hid True := trivial
      clear x1 x2 y1 y2 hx hy HS hv HSX
      go_wp2_with fail
      refine wp_region_quiet_below (by kernel_rfl) (by kernel_rfl) ?_
      repeat (quiet_step (exact EE _ _))
      refine wpQuiet_nil ?_
      intro _ hw'
      obtain ⟨⟨dq, osq⟩, hw''⟩ := hw'
      have HB9 : Hid (Below w.heap.size w (grow (redrawn wr dq) osq)) := HB.out.trans ((below_regrown wr dq osq).mono hsr)
      subst hw''
      generalize grow (redrawn wr dq) osq = W9 at HB9 ⊢
      clear g1 g2 g3 g4 EE
      cases c with
      | true =>
        have HX : Hid (r = false) := HRR.out (HLT.out.1 rfl)
        go_wp2_with fail
        go_ret
        exact ⟨by rw [HX.out]; rfl, HB9.out⟩
      | false =>
        have HX : Hid _ := HN.out (HLT.out.2 rfl)
        go_wp2_with fail
        go_roundw
        case rel => exact ⟨k + 1, by omega, by go_num, HX.out, HB9.out⟩
        case measure => simp [intOf]; omega
    · have HX : Hid (r = true) := HT.out fun i x y h1 h2 => HS.out i x y (by have := (List.getElem?_eq_some_iff.1 h2).1; omega) h1 h2
      have i1 : ¬ (k : Int) + 1 < (l.length : Int) := by omega
      go_wp2_with fail
      go_ret
      exact ⟨by rw [HX.out]; rfl, HB.out⟩

/-- x is put behind A and ahead of B. -/
theorem putM_sorted {A B : List Ml} {x : Ml} (h : InM (A ++ B)) (hB : ∀ y ∈ B, ltM x y) (hA : ∀ z, A.getLast? = some z → ¬ ltM x z) : InM (A ++ x :: B) := by
  unfold InM at *
  rw [List.pairwise_append] at h ⊢
  obtain ⟨h1, h2, h3⟩ := h
  have hAx : ∀ a ∈ A, leM a x = true := by
    intro a ha
    rw [leM_iff]
    rcases List.eq_nil_or_concat A with rfl | ⟨A', z, rfl⟩
    · simp at ha
    · have hz : ¬ ltM x z := hA z (by simp)
      simp only [List.concat_eq_append] at ha h1
      rw [List.mem_append] at ha
      rcases ha with ha | ha
      · have := (List.pairwise_append.1 h1).2.2 a ha z (by simp)
        rw [leM_iff] at this
        unfold ltM at *; omega
      · simp at ha; subst ha; exact hz
  refine ⟨h1, ?_, ?_⟩
  · rw [List.pairwise_cons]
    exact ⟨fun y hy => by have := hB y hy; rw [leM_iff]; unfold ltM at *; omega, h2⟩
  · intro a ha y hy
    rcases List.mem_cons.1 hy with rfl | hy
    · exact hAx a ha
    · exact h3 a ha y hy
theorem putM_perm {A B s l : List Ml} {x : Ml} (h : A ++ B = s) (hp : s.Perm l) : (A ++ x :: B).Perm (l ++ [x]) := by
  subst h
  exact (List.perm_middle.trans (List.Perm.cons x hp)).trans (List.perm_append_singleton x l).symm
end Go.Proofs.Ytbfkmakfkbdafaa

namespace Go.Proofs.Ytbfkmakfkbdafaa
set_option maxRecDepth 100000
open Go.ChangeShapes Go.WideShapes Go.ChangeAt Go.RowKit

theorem valS_in (x : Ml) : valS x = (inB x.1 (-1) 4398046511104 && inB x.2 (-1) 199) := by
  rw [Bool.eq_iff_iff, valS_iff]
  unfold inB
  simp only [Bool.and_eq_true, decide_eq_true_eq]
  omega
set_option maxHeartbeats 1000000 in
theorem topD_any (w : World) : Calls Try.prog 69 #[.int .i64 1] w fun e w' => e = .returned (.int .i64 4398046511104) ∧ w' = w := by
  go_enter Try.func69, Try.ntmps69
  go_wp2_with fail
  go_ret
  exact ⟨rfl, rfl⟩
section
open Go.Sort
set_option maxHeartbeats 1000000 in
set_option maxRecDepth 100000 in
theorem valMayS_any (x : Ml) (w : World) :
    Calls Try.prog 49 #[.int .i64 1, .agg #[.int .i64 x.1, .int .i64 x.2]] w fun e w' => e = .returned (.bool (valS x)) ∧ RowKit.Below w.heap.size w w' := by
  have hF := topD_any
  rw [valS_in]
  obtain ⟨W, hW⟩ : ∃ W, w.alloc (.cells #[.int .i64 x.1, .int .i64 x.2] 52) = W := ⟨_, rfl⟩
  have hX : BX 52 W w.heap.size #[.int .i64 x.1, .int .i64 x.2] := by rw [← hW]; exact BX.new _ _ _
  have HB : Hid (RowKit.Below w.heap.size w W) := by show RowKit.Below _ _ _; rw [← hW]; exact below_alloc _ _
  obtain ⟨c0, c1, _⟩ := hX.all2
  have g0 := cell_regrown c0
  have g1 := cell_regrown c1
  have EG : ∀ d os, Calls Try.prog 69 #[.int .i64 1] (grow (redrawn W d) os) fun e w'' => e = .returned (.int .i64 4398046511104) ∧ ∃ p : Regrown, w'' = grow (redrawn W p.d) p.os := fun d os => Calls.regrown_of ((hF _).mono (fun e w' h => ⟨h.1, by rw [h.2]; exact Below.refl _ _⟩))
  have EW : ∀ v a b d os, Calls Try.prog 48 #[.int .i64 v, .int .i64 a, .int .i64 b] (grow (redrawn W d) os) fun e w'' => e = .returned (.bool (inB v a b)) ∧ ∃ p : Regrown, w'' = grow (redrawn W p.d) p.os := fun v a b d os => Calls.regrown_of ((in_any v a b _).mono (fun e w' h => ⟨h.1, by rw [h.2]; exact Below.refl _ _⟩))
  clear hF hX c0 c1
  cases h1 : inB x.1 (-1) 4398046511104
  · go_enter Try.func49, Try.ntmps49
    go_upto_region 1 with fail
    refine wp_region_quiet_below (by kernel_rfl) (by kernel_rfl) ?_
    repeat (quiet_step (first | (go_at_call 48; exact EW _ _ _ _ _) | exact EG _ _))
    refine wpQuiet_nil ?_
    intro _ hw'
    obtain ⟨⟨dq, osq⟩, hw''⟩ := hw'
    have HB9 : Hid (RowKit.Below W.heap.size W (grow (redrawn W dq) osq)) := below_regrown W dq osq
    subst hw''
    generalize grow (redrawn W dq) osq = W9 at HB9 ⊢
    have HC : Hid (RowKit.Below w.heap.size w W9) := HB.out.trans (HB9.out.mono HB.out.size)
    clear g0 g1 EG EW
    go_wp2_with fail
    go_ret
    exact ⟨rfl, HC.out⟩
  · cases h2 : inB x.2 (-1) 199
    all_goals go_enter Try.func49, Try.ntmps49
    all_goals go_upto_region 1 with fail
    all_goals refine wp_region_quiet_below (by kernel_rfl) (by kernel_rfl) ?_
    all_goals repeat (quiet_step (first | (go_at_call 48; exact EW _ _ _ _ _) | exact EG _ _))
    all_goals refine wpQuiet_nil ?_
    all_goals intro _ hw'
    all_goals obtain ⟨⟨dq, osq⟩, hw''⟩ := hw'
    all_goals have HB9 : Hid (RowKit.Below W.heap.size W (grow (redrawn W dq) osq)) := below_regrown W dq osq
    all_goals subst hw''
    all_goals generalize grow (redrawn W dq) osq = W9 at HB9 ⊢
    all_goals have HC : Hid (RowKit.Below w.heap.size w W9) := HB.out.trans (HB9.out.mono HB.out.size)
    all_goals clear g0 g1 EG EW
    all_goals go_wp2_with fail
    all_goals go_ret
    all_goals exact ⟨rfl, HC.out⟩

end
theorem svMay_len {s : SvS} (h : ¬ (s.vals.length ≤ 200 ∧ s.mail.length ≤ 5000)) : svMay s = false := by rw [Bool.eq_false_iff]; intro g; exact h ⟨(svMay_iff.1 g).2.1, (svMay_iff.1 g).2.2.2.1⟩

set_option maxHeartbeats 4000000 in
set_option maxRecDepth 100000 in
theorem savedMay_any (s : SvS) (vv vm : Value) (w : World) (hv : MlR w vv s.vals) (hm : MlR w vm s.mail) :
    Calls Try.prog 23 #[.agg #[.int .i64 s.step, .int .i64 s.phase, .bool s.fresh, vv, vm]] w fun e w' => e = .returned (.bool (svMay s)) ∧ Below w.heap.size w w' := by
  have HV : Hid (MlR w vv s.vals) := hv
  have HM : Hid (MlR w vm s.mail) := hm
  obtain ⟨va, vc, rfl, hvc, hvm, _, _⟩ := hv
  obtain ⟨ma, mc, rfl, hmc, hmm, _, _⟩ := hm
  unfold maxLen at hvm hmm
  have H1 : Hid (¬ (0 ≤ s.step ∧ s.step ≤ 100000 ∧ (s.phase = 0 ∨ s.phase = 1)) ∨ ¬ (s.vals.length ≤ 200 ∧ s.mail.length ≤ 5000) → svMay s = false) := fun h => by
    rcases h with h | h
    · exact svMay_head h
    · exact svMay_len h
  have H2 : Hid (valA s.vals = false → svMay s = false) := fun h => svMay_vals (fun g => by rw [h] at g; cases g.2)
  have H3 : Hid (mayA s.mail = false → svMay s = false) := fun h => by
    rw [Bool.eq_false_iff]
    intro g
    rw [(svMay_iff.1 g).2.2.2.2.2] at h
    cases h
  have H4 : Hid ((0 ≤ s.step ∧ s.step ≤ 100000 ∧ (s.phase = 0 ∨ s.phase = 1)) → (s.vals.length ≤ 200 ∧ s.mail.length ≤ 5000) → valA s.vals = true → mayA s.mail = true → svMay s = srtMb s.mail) := fun h1 h2 h3 h4 => by
    rw [Bool.eq_iff_iff, svMay_iff]
    exact ⟨fun h => h.2.2.2.2.1, fun h => ⟨h1, h2.1, h3, h2.2, h, h4⟩⟩
  have CO : Hid (∀ X, MlR X (.slice ma s.mail.length mc) s.mail → Calls Try.prog 51 #[.slice ma s.mail.length mc] X fun e w' => e = .returned (.bool (srtMb s.mail)) ∧ Below X.heap.size X w') := fun X hX => isOrdered_any _ s.mail X hX
  generalize svMay s = r at *
  generalize srtMb s.mail = bs at *
  obtain ⟨st, ph, fr, vs, ms⟩ := s
  simp only at HV HM H1 H2 H3 H4 CO hvc hvm hmc hmm ⊢
  have X0 : BX 25 (w.alloc (.cells #[.int .i64 st, .int .i64 ph, .bool fr, .slice va vs.length vc, .slice ma ms.length mc] 25)) w.heap.size #[.int .i64 st, .int .i64 ph, .bool fr, .slice va vs.length vc, .slice ma ms.length mc] := BX.new _ _ _
  have B0 : Below w.heap.size w (w.alloc (.cells #[.int .i64 st, .int .i64 ph, .bool fr, .slice va vs.length vc, .slice ma ms.length mc] 25)) := below_alloc _ _
  go_enter Try.func23, Try.ntmps23
  go_upto_region 1 with fail
  generalize w.alloc (.cells #[.int .i64 st, .int .i64 ph, .bool fr, .slice va vs.length vc, .slice ma ms.length mc] 25) = W0 at *
  have HK : Hid (∀ X, Below W0.heap.size W0 X → BX 25 X w.heap.size #[.int .i64 st, .int .i64 ph, .bool fr, .slice va vs.length vc, .slice ma ms.length mc] ∧ Below w.heap.size w X ∧ MlR X (.slice va vs.length vc) vs ∧ MlR X (.slice ma ms.length mc) ms) := fun X hX => ⟨X0.below hX X0.lt, B0.trans (hX.mono B0.size), HV.out.below (B0.trans (hX.mono B0.size)) (Nat.le_refl _), HM.out.below (B0.trans (hX.mono B0.size)) (Nat.le_refl _)⟩
  have A0 : Hid (Below W0.heap.size W0 W0) := Below.refl _ _
  have BW0 : Hid (Below w.heap.size w W0) := B0
  obtain ⟨c0, c1, c2, c3, c4⟩ := X0.all5
  clear X0 B0 HV HM
  obtain ⟨b1, hb1⟩ : ∃ b : Bool, b = decide (¬ (0 ≤ st ∧ st ≤ 100000 ∧ (ph = 0 ∨ ph = 1)) ∨ ¬ (vs.length ≤ 200 ∧ ms.length ≤ 5000)) := ⟨_, rfl⟩
  have HB1 : Hid (b1 = decide (¬ (0 ≤ st ∧ st ≤ 100000 ∧ (ph = 0 ∨ ph = 1)) ∨ ¬ (vs.length ≤ 200 ∧ ms.length ≤ 5000))) := hb1
  clear hb1
  go_cut [26] from 26 to 26 (fun t wx => t = .bool b1 ∧ W0 = wx)
  case first =>
    clear H1 H2 H3 H4 CO HK
    have CI : ∀ n lo hi X, Calls Try.prog 48 #[.int .i64 n, .int .i64 lo, .int .i64 hi] X fun e w' => e = .returned (.bool (inB n lo hi)) ∧ w' = X := fun n lo hi X => in_any n lo hi X
    have HCI : Hid (∀ n lo hi X, Calls Try.prog 48 #[.int .i64 n, .int .i64 lo, .int .i64 hi] X fun e w' => e = .returned (.bool (inB n lo hi)) ∧ X = w') := fun n lo hi X => (CI n lo hi X).mono fun e w' h => ⟨h.1, h.2.symm⟩
    clear CI
    by_cases h1 : 0 ≤ st ∧ st ≤ 100000
    · have i1 : inB st 0 100000 = true := in_yes h1
      by_cases h2 : 0 ≤ ph ∧ ph ≤ 1
      · have i2 : inB ph 0 1 = true := in_yes h2
        by_cases h3 : 200 < vs.length
        · have e : Hid (Value.bool true = .bool b1) := by show _ = _; rw [HB1.out, decide_eq_true (by omega)]
          have t3 : decide ((vs.length : Int) > 200) = true := decide_eq_true (by omega)
          have t3' : (200 : Int) < (vs.length : Int) := by omega
          clear HB1 h1 h2
          go_wp2_with fail
          refine (HCI.out _ _ _ _).mono ?_
          rw [i1]
          rintro e1 w1 ⟨rfl, rfl⟩
          go_wp2_with fail
          refine (HCI.out _ _ _ _).mono ?_
          rw [i2]
          rintro e1 w1 ⟨rfl, rfl⟩
          go_wp2_with fail
          go_meet
          case rel => exact ⟨e.out, rfl⟩
        · have t3 : decide ((vs.length : Int) > 200) = false := decide_eq_false (by omega)
          have t3' : ¬ (200 : Int) < (vs.length : Int) := by omega
          by_cases h4 : 5000 < ms.length
          · have e : Hid (Value.bool true = .bool b1) := by show _ = _; rw [HB1.out, decide_eq_true (by omega)]
            have t4 : decide ((ms.length : Int) > 5000) = true := decide_eq_true (by omega)
            have t4' : (5000 : Int) < (ms.length : Int) := by omega
            clear HB1 h1 h2
            go_wp2_with fail
            refine (HCI.out _ _ _ _).mono ?_
            rw [i1]
            rintro e1 w1 ⟨rfl, rfl⟩
            go_wp2_with fail
            refine (HCI.out _ _ _ _).mono ?_
            rw [i2]
            rintro e1 w1 ⟨rfl, rfl⟩
            go_wp2_with fail
            go_meet
            case rel => exact ⟨e.out, rfl⟩
          · have e : Hid (Value.bool false = .bool b1) := by show _ = _; rw [HB1.out, decide_eq_false (by omega)]
            have t4 : decide ((ms.length : Int) > 5000) = false := decide_eq_false (by omega)
            have t4' : ¬ (5000 : Int) < (ms.length : Int) := by omega
            clear HB1 h1 h2
            go_wp2_with fail
            refine (HCI.out _ _ _ _).mono ?_
            rw [i1]
            rintro e1 w1 ⟨rfl, rfl⟩
            go_wp2_with fail
            refine (HCI.out _ _ _ _).mono ?_
            rw [i2]
            rintro e1 w1 ⟨rfl, rfl⟩
            go_wp2_with fail
            go_meet
            case rel => exact ⟨e.out, rfl⟩
      · have i2 : inB ph 0 1 = false := in_no h2
        have e : Hid (Value.bool true = .bool b1) := by show _ = _; rw [HB1.out, decide_eq_true (by omega)]
        clear HB1 h1 h2
        go_wp2_with fail
        refine (HCI.out _ _ _ _).mono ?_
        rw [i1]
        rintro e1 w1 ⟨rfl, rfl⟩
        go_wp2_with fail
        refine (HCI.out _ _ _ _).mono ?_
        rw [i2]
        rintro e1 w1 ⟨rfl, rfl⟩
        go_wp2_with fail
        go_meet
        case rel => exact ⟨e.out, rfl⟩
    · have i1 : inB st 0 100000 = false := in_no h1
      have e : Hid (Value.bool true = .bool b1) := by show _ = _; rw [HB1.out, decide_eq_true (by omega)]
      clear HB1 h1
      go_wp2_with fail
      refine (HCI.out _ _ _ _).mono ?_
      rw [i1]
      rintro e1 w1 ⟨rfl, rfl⟩
      go_wp2_with fail
      go_meet
      case rel => exact ⟨e.out, rfl⟩
  case rest =>
  obtain ⟨rfl, rfl⟩ := hcut
  cases b1
  · have HH : Hid ((0 ≤ st ∧ st ≤ 100000 ∧ (ph = 0 ∨ ph = 1)) ∧ vs.length ≤ 200 ∧ ms.length ≤ 5000) := by
      have h := of_decide_eq_false HB1.out.symm
      constructor
      · exact Classical.not_not.1 fun g => h (.inl g)
      · exact Classical.not_not.1 fun g => h (.inr g)
    clear HB1 H1
    go_wp2_with fail
    go_loopw [3] (fun i wr => ∃ k : Nat, k ≤ vs.length ∧ i = .int .i64 k ∧ valA (vs.take k) = true ∧ Below W0.heap.size W0 wr) (fun i _ => vs.length - (intOf i).toNat)
    case atStart => exact ⟨0, by omega, rfl, rfl, A0.out⟩
    case round =>
      clear c0 c1 c2 c3 c4
      obtain ⟨k, hk, rfl, hno, hbel⟩ := hrel
      have HNO : Hid (valA (vs.take k) = true) := hno
      have AB : Hid (Below W0.heap.size W0 wr) := hbel
      have hsr := hbel.size
      obtain ⟨Q1, bw1, MV, _⟩ := HK.out _ hbel
      have BW1 : Hid (Below w.heap.size w wr) := bw1
      obtain ⟨c0, c1, c2, c3, c4⟩ := Q1.all5
      clear hno hbel bw1 Q1
      by_cases hlt : k < vs.length
      · obtain ⟨b, off, cap', e1, _, _, lt, hv⟩ := MlR.at MV (by omega)
        injection e1 with e1 e2 e3
        subst e1 e3
        clear e2
        obtain ⟨x, hx⟩ := getX hlt
        obtain ⟨d1, d2⟩ := hv k x hx
        have HX : Hid (vs[k]? = some x) := hx
        have p0 : (0 : Int) ≤ (k : Int) := by omega
        have p1 : (k : Int) < (vs.length : Int) := by omega
        clear hv hx MV
        cases ho : valS x
        · have e := H2.out (valA_hit HX.out ho)
          subst e
          have CV : Hid (∀ X, Calls Try.prog 49 #[.int .i64 1, .agg #[.int .i64 x.1, .int .i64 x.2]] X fun e w' => e = .returned (.bool false) ∧ Below X.heap.size X w') := fun X => by have := valMayS_any x X; rw [ho] at this; exact this
          clear ho H2 H3 H4 CO
          go_wp2_with fail
          refine (CV.out _).mono ?_
          rintro e w2 ⟨rfl, hb2⟩
          have B2 : Hid (Below w.heap.size w w2) := BW1.out.trans (hb2.mono BW1.out.size)
          clear hb2
          go_wp2_with fail
          go_ret
          exact ⟨rfl, B2.out⟩
        · have HN2 : Hid (valA (vs.take (k + 1)) = true) := valA_cut HX.out HNO.out ho
          have CV : Hid (∀ X, Calls Try.prog 49 #[.int .i64 1, .agg #[.int .i64 x.1, .int .i64 x.2]] X fun e w' => e = .returned (.bool true) ∧ Below X.heap.size X w') := fun X => by have := valMayS_any x X; rw [ho] at this; exact this
          clear ho
          go_wp2_with fail
          refine (CV.out _).mono ?_
          rintro e w2 ⟨rfl, hb2⟩
          have A2 : Hid (Below W0.heap.size W0 w2) := AB.out.trans (hb2.mono hsr)
          clear hb2
          go_wp2_with fail
          go_roundw
          case rel => exact ⟨k + 1, by omega, by go_num, HN2.out, A2.out⟩
          case measure => simp [intOf]; omega
      · have ek : vs.take k = vs := List.take_of_length_le (by omega)
        have HVA : Hid (valA vs = true) := by have := HNO.out; rwa [ek] at this
        obtain ⟨V1, rfl⟩ : ∃ V, V = wr := ⟨wr, rfl⟩
        clear ek HNO H2 MV
        go_wp2_with fail
        go_loopw [4] (fun i wr => ∃ k : Nat, k ≤ ms.length ∧ i = .int .i64 k ∧ mayA (ms.take k) = true ∧ Below W0.heap.size W0 wr) (fun i _ => ms.length - (intOf i).toNat)
        case atStart => exact ⟨0, by omega, rfl, rfl, AB.out⟩
        case round =>
          clear c0 c1 c2 c3 c4 AB BW1
          obtain ⟨k, hk, rfl, hno, hbel⟩ := hrel
          have HNO : Hid (mayA (ms.take k) = true) := hno
          have AB : Hid (Below W0.heap.size W0 wr) := hbel
          have hsr := hbel.size
          obtain ⟨Q1, bw1, _, MM⟩ := HK.out _ hbel
          have BW1 : Hid (Below w.heap.size w wr) := bw1
          have RM : Hid (MlR wr (.slice ma ms.length mc) ms) := MM
          obtain ⟨c0, c1, c2, c3, c4⟩ := Q1.all5
          clear hno hbel bw1 Q1
          by_cases hlt : k < ms.length
          · obtain ⟨b, off, cap', e1, _, _, lt, hv⟩ := MlR.at MM (by omega)
            injection e1 with e1 e2 e3
            subst e1 e3
            clear e2
            obtain ⟨x, hx⟩ := getX hlt
            obtain ⟨d1, d2⟩ := hv k x hx
            have HX : Hid (ms[k]? = some x) := hx
            have p0 : (0 : Int) ≤ (k : Int) := by omega
            have p1 : (k : Int) < (ms.length : Int) := by omega
            clear hv hx MM
            cases ho : mayM x
            · have e := H3.out (mayA_hit HX.out ho)
              subst e
              have CV : Hid (∀ X, Calls Try.prog 50 #[.agg #[.int .i64 x.1, .int .i64 x.2]] X fun e w' => e = .returned (.bool false) ∧ Below X.heap.size X w') := fun X => by have := mailMay_any x X; rw [ho] at this; exact this
              clear ho H3 H4 CO
              go_wp2_with fail
              refine (CV.out _).mono ?_
              rintro e w2 ⟨rfl, hb2⟩
              have B2 : Hid (Below w.heap.size w w2) := BW1.out.trans (hb2.mono BW1.out.size)
              clear hb2
              go_wp2_with fail
              go_ret
              exact ⟨rfl, B2.out⟩
            · have HN2 : Hid (mayA (ms.take (k + 1)) = true) := mayA_cut HX.out HNO.out ho
              have CV : Hid (∀ X, Calls Try.prog 50 #[.agg #[.int .i64 x.1, .int .i64 x.2]] X fun e w' => e = .returned (.bool true) ∧ Below X.heap.size X w') := fun X => by have := mailMay_any x X; rw [ho] at this; exact this
              clear ho
              go_wp2_with fail
              refine (CV.out _).mono ?_
              rintro e w2 ⟨rfl, hb2⟩
              have A2 : Hid (Below W0.heap.size W0 w2) := AB.out.trans (hb2.mono hsr)
              clear hb2
              go_wp2_with fail
              go_roundw
              case rel => exact ⟨k + 1, by omega, by go_num, HN2.out, A2.out⟩
              case measure => simp [intOf]; omega
          · have ek : ms.take k = ms := List.take_of_length_le (by omega)
            have HR : Hid (r = bs) := H4.out HH.out.1 HH.out.2 HVA.out (by have := HNO.out; rwa [ek] at this)
            clear ek HNO H3 H4 MM
            go_wp2_with fail
            refine (CO.out _ RM.out).mono ?_
            rintro e w2 ⟨rfl, hb2⟩
            have B2 : Hid (Below w.heap.size w w2) := BW1.out.trans (hb2.mono BW1.out.size)
            clear hb2
            go_wp2_with fail
            go_ret
            exact ⟨ret_bool HR.out.symm, B2.out⟩
  · have e := H1.out (of_decide_eq_true HB1.out.symm)
    subst e
    clear HB1 H1 H2 H3 H4 CO
    go_wp2_with fail
    go_ret
    exact ⟨rfl, BW0.out⟩
end Go.Proofs.Ytbfkmakfkbdafaa

namespace Go.Proofs.Ytbfkmakfkbdafaa
set_option maxRecDepth 100000
open Go.ChangeShapes Go.WideShapes Go.ChangeAt Go.RowKit

set_option maxHeartbeats 400000 in
set_option maxRecDepth 100000 in
theorem summed_row (b off cap : Nat) (xs : List Int) (w : World) (hm : xs.length ≤ maxLen) (hx : ∀ x ∈ xs, 0 ≤ x ∧ x ≤ 255)
    (hcell : ∀ i, i < xs.length → w.cell? ⟨b, off + i, none⟩ = some (.int .u8 (xs.getD i 0))) :
    Calls Try.prog 52 #[.slice (some ⟨b, off, none⟩) xs.length cap] w fun e w' => e = .returned (.int .u32 (crc xs)) ∧ w' = w := by
  unfold maxLen at hm
  have HC : Hid (∀ i, i < xs.length → w.cell? ⟨b, off + i, none⟩ = some (.int .u8 (xs.getD i 0))) := hcell
  have HX : Hid (∀ x ∈ xs, 0 ≤ x ∧ x ≤ 255) := hx
  clear hcell hx
  go_enter Try.func52, Try.ntmps52
  go_wp2_with fail
  go_loop [3, 4] (fun n i => ∃ (k : Nat), k ≤ xs.length ∧ i = .int .i64 k ∧ n = .int .u32 (runR 4294967295 (xs.take k))) (fun _ i => xs.length - (intOf i).toNat)
  case atStart => exact ⟨0, by omega, rfl, rfl⟩
  case round =>
    obtain ⟨k, hk, rfl, rfl⟩ := hrel
    have hr := runR_lt (xs.take k) 4294967295 (by omega) (fun x hx => HX.out x (List.mem_of_mem_take hx))
    by_cases hlt : k < xs.length
    · have hck := HC.out k hlt
      have hxb := HX.out (xs.getD k 0) (by rw [List.getD_eq_getElem?_getD, List.getElem?_eq_getElem hlt]; exact List.getElem_mem hlt)
      have HN : Hid (runR 4294967295 (xs.take (k + 1)) = eight (runR 4294967295 (xs.take k) ^^^ (xs.getD k 0).toNat)) := by
        show _ = _
        rw [take_snocI hlt, runR_snoc]
      generalize runR 4294967295 (xs.take k) = r at *
      obtain ⟨x, hxe⟩ : ∃ x : Nat, xs.getD k 0 = (x : Int) := ⟨_, (Int.toNat_of_nonneg hxb.1).symm⟩
      rw [hxe] at hck hxb HN
      clear hxe
      have h8 : x < 256 := by omega
      clear hxb
      go_wp2_with fail
      go_loop [3, 5, 6] (fun s c j => ∃ (m S C : Nat), m ≤ 8 ∧ j = .int .i64 m ∧ s = .int .u32 S ∧ c = .int .u32 C ∧ S < 4294967296 ∧ C = x / 2 ^ m ∧ S ^^^ C = shN m (r ^^^ x)) (fun _ _ j => 8 - (intOf j).toNat)
      case atStart => exact ⟨0, r, x, by omega, rfl, rfl, rfl, hr, by simp, rfl⟩
      case round =>
        obtain ⟨m, S, C, hm8, rfl, rfl, rfl, hS, hC, hi⟩ := hrel
        have hC8 : C < 256 := by rw [hC]; exact Nat.lt_of_le_of_lt (Nat.div_le_self _ _) h8
        have HI : Hid (S ^^^ C = shN m (r ^^^ x)) := hi
        have HCC : Hid (C = x / 2 ^ m) := hC
        have HC2 : Hid (C / 2 = x / 2 ^ (m + 1)) := by show _ = _; rw [hC, Nat.div_div_eq_div_mul, Nat.pow_succ]
        clear hi hC
        have hxp := xorP (S / 2) (by omega)
        have hxp' : bits .xor .u32 ((S : Int) / 2) 3988292384 = ((S / 2 ^^^ 3988292384 : Nat) : Int) := hxp
        have HA := bit_apart S C
        have HB : Hid (sh (S ^^^ C) = (if (S + C) % 2 = 1 then S / 2 ^^^ 3988292384 else S / 2) ^^^ C / 2) := HA
        clear HA hxp
        by_cases hm1 : m < 8
        · by_cases hodd : (S + C) % 2 = 1
          · have HB2 : Hid (sh (S ^^^ C) = (S / 2 ^^^ 3988292384) ^^^ C / 2) := by show _ = _; rw [HB.out, if_pos hodd]
            have hlt2 := xor_lt (show S / 2 < 4294967296 by omega) (show 3988292384 < 4294967296 by omega)
            have ho : (IntKind.u32.wrap ((S : Int) + (C : Int)) % 2 == 1) = true := by rw [IntKind.wrap_u32']; simp; omega
            clear HB
            generalize S / 2 ^^^ 3988292384 = q at *
            go_wp2_with fail
            go_round
            case rel => exact ⟨m + 1, q, C / 2, by omega, by go_num, rfl, by simp, hlt2, HC2.out, by show _ = sh (shN m (r ^^^ x)); rw [← HI.out, HB2.out]⟩
            case measure => simp [intOf]; omega
          · have HB2 : Hid (sh (S ^^^ C) = S / 2 ^^^ C / 2) := by show _ = _; rw [HB.out, if_neg hodd]
            have ho : (IntKind.u32.wrap ((S : Int) + (C : Int)) % 2 == 1) = false := by rw [IntKind.wrap_u32']; simp; omega
            clear HB
            go_wp2_with fail
            go_round
            case rel => exact ⟨m + 1, S / 2, C / 2, by omega, by go_num, by simp, by simp, by omega, HC2.out, by show _ = sh (shN m (r ^^^ x)); rw [← HI.out, HB2.out]⟩
            case measure => simp [intOf]; omega
        · have HF : Hid (S = eight (r ^^^ x)) := by
            show _ = shN 8 (r ^^^ x)
            have e : m = 8 := by omega
            subst e
            have hc0 : C = 0 := by rw [HCC.out]; omega
            rw [← HI.out, hc0, Nat.xor_zero]
          clear HB
          go_wp2_with fail
          go_round
          case rel => exact ⟨k + 1, by omega, by go_num, by rw [HN.out, HF.out]; rfl⟩
          case measure => simp [intOf]; omega
    · have HQ : Hid (crc xs = 4294967295 - runR 4294967295 (xs.take k)) := by
        show _ = _
        rw [← ones_sub hr, List.take_of_length_le (by omega)]; rfl
      generalize runR 4294967295 (xs.take k) = r at *
      have hx32 : IntKind.u32.wrap (4294967295 - (r : Int)) = ((4294967295 - r : Nat) : Int) := by rw [IntKind.wrap_u32']; omega
      generalize 4294967295 - r = q at *
      go_wp2_with fail
      go_ret
      exact ⟨by rw [HQ.out]; rfl, rfl⟩
set_option maxRecDepth 100000 in
theorem summed_empty (a : Option Addr) (cap : Nat) (w : World) :
    Calls Try.prog 52 #[.slice a 0 cap] w fun e w' => e = .returned (.int .u32 0) ∧ w' = w := by
  go_enter Try.func52, Try.ntmps52
  go_wp2_with fail
  refine wp_loop_rounds 1 ?_
  rw [rounds_succ]
  go_wp2
  go_ret
  exact ⟨rfl, rfl⟩

theorem summed_any (v : Value) (xs : List Int) (w : World) (h : Reads .u8 w v xs) (hx : ∀ x ∈ xs, 0 ≤ x ∧ x ≤ 255) :
    Calls Try.prog 52 #[v] w fun e w' => e = .returned (.int .u32 (crc xs)) ∧ w' = w := by
  by_cases hn : 0 < xs.length
  · obtain ⟨b, off, cap, rfl, hc, hm, _, hcell⟩ := h.plain hn
    exact summed_row b off cap xs w (Nat.le_trans hc hm) hx hcell
  · have : xs = [] := List.eq_nil_of_length_eq_zero (by omega)
    subst this
    obtain ⟨a, cap, rfl, _, _⟩ := h.empty
    refine (summed_empty a cap w).mono ?_
    rintro e w' ⟨rfl, rfl⟩
    exact ⟨rfl, rfl⟩
end Go.Proofs.Ytbfkmakfkbdafaa

namespace Go.Proofs.Ytbfkmakfkbdafaa
set_option maxRecDepth 100000
open Go.ChangeShapes Go.WideShapes Go.ChangeAt Go.RowKit

set_option maxHeartbeats 800000 in
theorem packed_any (f : Nat) : ∀ (n : Int) (w : World), 0 ≤ n → n < 128 ^ (f + 1) → n ≤ 18446744073709551615 →
    Calls Try.prog 24 #[.int .u64 n] w fun e w' =>
      ∃ v', e = .returned v' ∧ w'.ownsRow w.heap.size 5 1 v' (put n).length ((put n).map (Value.int .u8)) ∧ Below w.heap.size w w' := by
  obtain ⟨i0, hi, hz0, hz1, hz2⟩ := info_parts Try.info5
  induction f with
  | zero =>
    intro n w h0 hf h1
    have hn : n < 128 := by simpa using hf
    clear hf
    go_enter Try.func24, Try.ntmps24
    go_wp2_with fail
    go_ret
    refine ⟨_, rfl, ?_, ?_⟩
    · rw [put_small hn]; exact own_new w _ (Nat.le_refl _) n
    · exact (Below.refl _ _).alloc (Nat.le_refl _) _
  | succ f ih =>
    intro n w h0 hf h1
    by_cases hn : n < 128
    · clear hf ih
      go_enter Try.func24, Try.ntmps24
      go_wp2_with fail
      go_ret
      refine ⟨_, rfl, ?_, ?_⟩
      · rw [put_small hn]; exact own_new w _ (Nat.le_refl _) n
      · exact (Below.refl _ _).alloc (Nat.le_refl _) _
    · have hd : n / 128 < 128 ^ (f + 1) := div128_lt (by rw [p128] at hf; exact hf)
      have IH := ih (n / 128) (w.alloc (.cells #[.int .u8 (n % 128 + 128)] 5)) (by omega) hd (by omega)
      have HI : Hid (Calls Try.prog 24 #[.int .u64 (n / 128)] (w.alloc (.cells #[.int .u8 (n % 128 + 128)] 5)) _) := IH
      clear IH ih hf hd
      go_enter Try.func24, Try.ntmps24
      go_wp2_with fail
      refine HI.out.mono ?_
      rintro e w1 ⟨v1, rfl, hown1, hbel1⟩
      have hl := put_len (n / 128)
      have hb1 : Below w.heap.size w w1 := ((Below.refl _ _).alloc (Nat.le_refl _) _).trans (hbel1.mono (by simp))
      have own0 := own_below (own_new w w.heap.size (Nat.le_refl _) (n % 128 + 128)) hbel1 (Nat.le_refl _)
      obtain ⟨g, cap, rfl, hg, hg2, hc, hm, hcell⟩ := own_shape hown1 (by omega)
      have hsz := hb1.size
      have HC : Hid (∀ (j : Nat) (u : Value), (List.map (Value.int IntKind.u8) (put (n / 128)))[j]? = some u → w1.cell? ((⟨g, 0, none⟩ : Addr).add j) = some u) := hcell
      clear HI hown1 hbel1 hcell
      go_wp2_with (at_builtin; refine wpList_append_own _ rfl _ _ 27 rfl w.heap.size 5 i0 (.int .u8 0) 1 1 Try.underlying27 hi hz0 hz1 hz2 rfl (by decide) _ _ _ rfl own0 ⟨g, 0, none⟩ (put (n / 128)).length cap ((put (n / 128)).map (Value.int .u8)) rfl (by simp) HC.out (bytes_oneCell _) ?d3 ?d4 ?d5 ?_)
      case d3 => unfold maxLen; simp; omega
      case d4 => simp; omega
      case d5 => first | omega | (simp; omega)
      intro v' w2 hown' hgrow _
      have hbel2 : Below w.heap.size w w2 := hb1.grown hgrow hsz (fun k hk => by simp [Value.ownBlock] at hk; omega)
      clear HC own0
      go_wp2
      go_ret
      exact ⟨v', rfl, by rw [put_big (by omega) h1]; simpa [Nat.add_comm] using hown', hbel2⟩
end Go.Proofs.Ytbfkmakfkbdafaa

namespace Go.Proofs.Ytbfkmakfkbdafaa
set_option maxRecDepth 100000
open Go.ChangeShapes Go.WideShapes Go.ChangeAt Go.RowKit

set_option maxHeartbeats 400000 in
set_option maxRecDepth 100000 in
theorem wrapped_any (v : Value) (xs : List Int) (w : World) (h : Reads .u8 w v xs) (hx : ∀ x ∈ xs, 0 ≤ x ∧ x ≤ 255) (hl : xs.length ≤ 20000) :
    Calls Try.prog 25 #[v] w fun e w' =>
      ∃ v', e = .returned (.tuple #[v', .int .i64 0]) ∧ w'.ownsRow w.heap.size 5 1 v' (wrap xs).length ((wrap xs).map (Value.int .u8)) ∧ Below w.heap.size w w' := by
  have HR : Hid (Reads .u8 w v xs) := h
  have HX : Hid (∀ x ∈ xs, 0 ≤ x ∧ x ≤ 255) := hx
  have HB : Hid (∀ x ∈ put xs.length ++ xs, 0 ≤ x ∧ x ≤ 255) := head_bytes hx hl
  have pl := put_len (xs.length : Int)
  have HS : Hid (wrap xs = (put xs.length ++ xs) ++ four (crc (put xs.length ++ xs))) := rfl
  have hcr := crc_lt HB.out
  obtain ⟨a, cap, rfl, _, _, _, _⟩ := h
  clear hx
  go_enter Try.func25, Try.ntmps25
  go_wp2_with fail
  refine (packed_any 9 (xs.length : Int) _ (by omega) (lt_128_10 (by omega)) (by omega)).mono ?_
  rintro e w1 ⟨v1, rfl, hown1, hbel1⟩
  have O1 : Hid (w1.ownsRow w.heap.size 5 1 v1 (put xs.length).length ((put xs.length).map (Value.int .u8))) := hown1
  have B1 : Hid (Below w.heap.size w w1) := hbel1
  clear hown1 hbel1
  generalize put (xs.length : Int) = hd at *
  go_wp2_with fail
  go_loopw [4, 5] (fun v i wr => ∃ k : Nat, k ≤ xs.length ∧ i = .int .i64 k ∧ wr.ownsRow w.heap.size 5 1 v (hd ++ xs.take k).length ((hd ++ xs.take k).map (Value.int .u8)) ∧ Below w.heap.size w wr) (fun _ i _ => xs.length - (intOf i).toNat)
  case atStart => exact ⟨0, by omega, rfl, by simpa using O1.out, B1.out⟩
  case round =>
    obtain ⟨k, hk, rfl, hown, hbel⟩ := hrel
    have hs := hbel.size
    by_cases hlt : k < xs.length
    · obtain ⟨b, off, cap', e1, hc, hm, hb, hcell⟩ := (HR.out.below hbel (Nat.le_refl _)).plain (by omega)
      injection e1 with e1 _ e3
      subst e1 e3
      have hck := hcell k hlt
      have HTk : Hid (xs.take (k + 1) = xs.take k ++ [xs.getD k 0]) := take_snocI hlt
      have hlen : (hd ++ xs.take k).length ≤ 20010 := by simp; omega
      generalize xs.getD k 0 = x at *
      have OW : Hid (wr.ownsRow w.heap.size 5 1 u4 (hd ++ xs.take k).length ((hd ++ xs.take k).map (Value.int .u8))) := hown
      clear hown
      have HA : Hid (hd ++ xs.take (k + 1) = (hd ++ xs.take k) ++ [x]) := by show _ = _; rw [HTk.out]; simp
      clear HTk
      generalize hd ++ xs.take k = f at *
      clear hcell
      go_wp2_with (at_builtin; refine wpList_append_reads rfl _ _ rfl w.heap.size _ f rfl (OW.out.alloc _) _ [x] rfl (reads_block (xs := [x]) (heap_alloc_new _ _) (by simp [maxLen])) (by simp; omega) (by simp; omega) ?_)
      intro v2 w2 hown2 hbel2 _
      have B2 : Hid (Below w.heap.size w w2) := (hbel.alloc hs _).trans hbel2
      have O2 : Hid (w2.ownsRow w.heap.size 5 1 v2 (hd ++ xs.take (k + 1)).length ((hd ++ xs.take (k + 1)).map (Value.int .u8))) := by show World.ownsRow _ _ _ _ _ _ _; rw [HA.out]; simpa using hown2
      clear hown2 hbel2 hbel
      go_wp2
      go_roundw
      case rel => exact ⟨k + 1, by omega, by go_num, O2.out, B2.out⟩
      case measure => simp [intOf]; omega
    · have ek : xs.take k = xs := List.take_of_length_le (by omega)
      rw [ek] at hown
      clear ek
      have O2 : Hid (wr.ownsRow w.heap.size 5 1 u4 (hd ++ xs).length ((hd ++ xs).map (Value.int .u8))) := hown
      have B2 : Hid (Below w.heap.size w wr) := hbel
      clear hown hbel
      have hll : (hd ++ xs).length ≤ 20010 := by simp; omega
      generalize hd ++ xs = f at *
      go_wp2_with fail
      refine (summed_any _ f _ (reads_own O2.out) HB.out).mono ?_
      rintro e w3 ⟨rfl, rfl⟩
      have hc4 : (four (crc f)).length = 4 := rfl
      have R4 : Hid (Reads .u8 (w3.alloc (.cells ((four (crc f)).map (Value.int .u8)).toArray 5)) (.slice (some ⟨w3.heap.size, 0, none⟩) 4 4) (four (crc f))) := reads_block (heap_alloc_new _ _) (by simp [hc4, maxLen])
      have O5 : Hid ((w3.alloc (.cells ((four (crc f)).map (Value.int .u8)).toArray 5)).ownsRow w.heap.size 5 1 u4 f.length (f.map (Value.int .u8))) := O2.out.alloc _
      have B5 : Hid (Below w.heap.size w (w3.alloc (.cells ((four (crc f)).map (Value.int .u8)).toArray 5))) := B2.out.alloc hs _
      simp only [four, List.map_cons, List.map_nil] at R4 O5 B5
      go_wp2_with (at_builtin; refine wpList_append_reads rfl _ _ rfl w.heap.size _ f rfl O5.out _ (four (crc f)) rfl R4.out (by simp [hc4]; omega) (by simp; omega) ?_)
      intro v6 w6 hown6 hbel6 _
      have O6 : Hid (w6.ownsRow w.heap.size 5 1 v6 (wrap xs).length ((wrap xs).map (Value.int .u8))) := by show World.ownsRow _ _ _ _ _ _ _; rw [HS.out]; simpa [hc4] using hown6
      have B6 : Hid (Below w.heap.size w w6) := B5.out.trans hbel6
      clear hown6 hbel6
      go_wp2
      go_ret2
      exact ⟨v6, rfl, O6.out, B6.out⟩

theorem wrapped_over (a : Option Addr) (n cap : Nat) (w : World) (hl : 20000 < n) :
    Calls Try.prog 25 #[.slice a n cap] w fun e w' => e = .returned (.tuple #[.slice none 0 0, .int .i64 1]) ∧ w' = w := by
  go_enter Try.func25, Try.ntmps25
  go_wp2_with fail
  go_ret2
  exact ⟨rfl, rfl⟩
end Go.Proofs.Ytbfkmakfkbdafaa

namespace Go.Proofs.Ytbfkmakfkbdafaa
set_option maxRecDepth 100000
open Go.ChangeShapes Go.WideShapes Go.ChangeAt Go.RowKit

theorem own_setN {w : World} {base g n cap j : Nat} {xs : List Int} {x : Int} (h : w.ownsRow base 3 1 (.slice (some ⟨g, 0, none⟩) n cap) n (xs.flatMap encI)) : (w.setCell ⟨g, j, none⟩ (.int .i64 x)).ownsRow base 3 1 (.slice (some ⟨g, 0, none⟩) n cap) n ((xs.set j x).flatMap encI) := by
  have := own_setRow (j := j) (x := .int .i64 x) h
  rw [flatI] at this ⊢
  rwa [List.map_set]
theorem own_atN {w : World} {base g n cap : Nat} {xs : List Int} (h : w.ownsRow base 3 1 (.slice (some ⟨g, 0, none⟩) n cap) n (xs.flatMap encI)) {i : Nat} {x : Int} (hx : xs[i]? = some x) : w.cell? ⟨g, i, none⟩ = some (.int .i64 x) := by
  have := h.cells rfl i (.int .i64 x) (by rw [flatI, List.getElem?_map, hx]; rfl)
  rwa [addr_add] at this
end Go.Proofs.Ytbfkmakfkbdafaa

namespace Go.Proofs.Ytbfkmakfkbdafaa
set_option maxRecDepth 100000
open Go.ChangeShapes Go.WideShapes Go.ChangeAt Go.RowKit

set_option maxHeartbeats 8000000 in
set_option maxRecDepth 100000 in
theorem savedBytes_any (s : SvS) (vv vm : Value) (w : World) (hv : MlR w vv s.vals) (hm : MlR w vm s.mail) :
    Calls Try.prog 8 #[.agg #[.int .i64 s.step, .int .i64 s.phase, .bool s.fresh, vv, vm]] w (BytP2 w (encS s)) := by
  have HV : Hid (MlR w vv s.vals) := hv
  have HM : Hid (MlR w vm s.mail) := hm
  have CM : Hid (∀ X, MlR X vv s.vals → MlR X vm s.mail → Calls Try.prog 23 #[.agg #[.int .i64 s.step, .int .i64 s.phase, .bool s.fresh, vv, vm]] X fun e w' => e = .returned (.bool (svMay s)) ∧ Below X.heap.size X w') := fun X h1 h2 => savedMay_any s vv vm X h1 h2
  obtain ⟨va, vc, rfl, hvc, hvm, _, _⟩ := hv
  obtain ⟨ma, mc, rfl, hmc, hmm, _, _⟩ := hm
  unfold maxLen at hvm hmm
  have EN : Hid (svMay s = false → encS s = ([], 9)) := encS_no
  have EB : Hid (svMay s = true → ¬ (bytN (numsS s)).length ≤ 20000 → encS s = ([], 1)) := encS_big
  have EY : Hid (svMay s = true → (bytN (numsS s)).length ≤ 20000 → encS s = (wrap (bytN (numsS s)), 0)) := encS_yes
  have NI : Hid (svMay s = true → ∀ n ∈ numsS s, 0 ≤ n ∧ n ≤ 4398046511105) := numsS_in
  have BY : Hid (svMay s = true → ∀ x ∈ bytN (numsS s), 0 ≤ x ∧ x ≤ 255) := fun h => bytN_bytes (fun n hn => ⟨(numsS_in h n hn).1, by have := (numsS_in h n hn).2; omega⟩)
  have NB : Hid (svMay s = true → s.vals.length ≤ 200 ∧ s.mail.length ≤ 5000 ∧ (∀ x ∈ s.vals, -1 ≤ x.1 ∧ x.1 ≤ 4398046511104 ∧ -1 ≤ x.2 ∧ x.2 < 200)) := fun h => by
    obtain ⟨⟨h1, h2, h3⟩, h4, h5, h6, _, h7⟩ := svMay_iff.1 h
    exact ⟨h4, h6, fun x hx => valS_iff.1 (valA_iff.1 h5 x hx)⟩
  have NE : Hid (numsS s = (([s.step, s.phase, if s.fresh then 1 else 0, (s.vals.length : Int)] ++ pairN 1 s.vals) ++ [(s.mail.length : Int)]) ++ pairN 0 s.mail) := by
    show _ = _
    unfold numsS
    rw [List.append_assoc, List.append_assoc]
  have NL : Hid ((numsS s).length = 5 + 2 * s.vals.length + 2 * s.mail.length) := numsS_len s
  generalize encS s = R at *
  generalize svMay s = r at *
  generalize numsS s = NS at *
  obtain ⟨st, ph, fr, vs, ms⟩ := s
  simp only at HV HM CM hvc hvm hmc hmm NB NE NL ⊢
  have X0 : BX 25 (w.alloc (.cells #[.int .i64 st, .int .i64 ph, .bool fr, .slice va vs.length vc, .slice ma ms.length mc] 25)) w.heap.size #[.int .i64 st, .int .i64 ph, .bool fr, .slice va vs.length vc, .slice ma ms.length mc] := BX.new _ _ _
  have B0 : Below w.heap.size w (w.alloc (.cells #[.int .i64 st, .int .i64 ph, .bool fr, .slice va vs.length vc, .slice ma ms.length mc] 25)) := below_alloc _ _
  go_enter Try.func8, Try.ntmps8
  go_upto_region 1 with fail
  generalize w.alloc (.cells #[.int .i64 st, .int .i64 ph, .bool fr, .slice va vs.length vc, .slice ma ms.length mc] 25) = W0 at *
  have HK0 : Hid (∀ X, Below W0.heap.size W0 X → BX 25 X w.heap.size #[.int .i64 st, .int .i64 ph, .bool fr, .slice va vs.length vc, .slice ma ms.length mc] ∧ Below w.heap.size w X ∧ MlR X (.slice va vs.length vc) vs ∧ MlR X (.slice ma ms.length mc) ms) := fun X hX => ⟨X0.below hX X0.lt, B0.trans (hX.mono B0.size), HV.out.below (B0.trans (hX.mono B0.size)) (Nat.le_refl _), HM.out.below (B0.trans (hX.mono B0.size)) (Nat.le_refl _)⟩
  have A0 : Hid (Below W0.heap.size W0 W0) := Below.refl _ _
  obtain ⟨c0, c1, c2, c3, c4⟩ := X0.all5
  clear X0 B0 HV HM
  go_wp2_with fail
  refine (CM.out _ (HK0.out _ A0.out).2.2.1 (HK0.out _ A0.out).2.2.2).mono ?_
  rintro e W1 ⟨rfl, hb1⟩
  have A1 : Hid (Below W0.heap.size W0 W1) := hb1
  obtain ⟨Q1, bw1, _, _⟩ := HK0.out _ hb1
  have BW1 : Hid (Below w.heap.size w W1) := bw1
  clear c0 c1 c2 c3 c4 hb1 bw1 CM
  obtain ⟨c0, c1, c2, c3, c4⟩ := Q1.all5
  clear Q1
  cases r
  · have e := EN.out rfl
    subst e
    have HP : Hid (BytP2 w ([], 9) (.returned (.tuple #[.slice none 0 0, .int .i64 9])) W1) := BytP2.no BW1.out
    clear EN EB EY NI NB NE NL BY
    generalize BytP2 w ([], 9) = P at *
    go_wp2_with fail
    exact HP.out
  · obtain ⟨hvl, hml, hvb⟩ := NB.out rfl
    have HVB : Hid (∀ x ∈ vs, -1 ≤ x.1 ∧ x.1 ≤ 4398046511104 ∧ -1 ≤ x.2 ∧ x.2 < 200) := hvb
    have EB2 : Hid (¬ (bytN NS).length ≤ 20000 → R = ([], 1)) := EB.out rfl
    have EY2 : Hid ((bytN NS).length ≤ 20000 → R = (wrap (bytN NS), 0)) := EY.out rfl
    have HNI : Hid (∀ n ∈ NS, 0 ≤ n ∧ n ≤ 4398046511105) := NI.out rfl
    have HNB : Hid (∀ x ∈ bytN NS, 0 ≤ x ∧ x ≤ 255) := BY.out rfl
    have HNL : Hid (NS.length ≤ 10405) := by have := NL.out; show _ ≤ _; omega
    clear hvb EN EB EY NI NB NL BY
    have HK : Hid (∀ X, Below W1.heap.size W1 X → BX 25 X w.heap.size #[.int .i64 st, .int .i64 ph, .bool fr, .slice va vs.length vc, .slice ma ms.length mc] ∧ Below w.heap.size w X ∧ MlR X (.slice va vs.length vc) vs ∧ MlR X (.slice ma ms.length mc) ms) := fun X hX => HK0.out X (A1.out.trans (hX.mono A1.out.size))
    have hqw := BW1.out.size
    clear HK0 A0 A1 BW1
    have W2 : Hid ((W1.alloc (.cells #[.int .i64 st, .int .i64 ph, .int .i64 0, .int .i64 (vs.length : Int)] 3)).ownsRow W1.heap.size 3 1 (.slice (some ⟨W1.heap.size, 0, none⟩) 4 4) ([st, ph, 0, (vs.length : Int)] : List Int).length (([st, ph, 0, (vs.length : Int)] : List Int).flatMap encI) ∧ Below W1.heap.size W1 (W1.alloc (.cells #[.int .i64 st, .int .i64 ph, .int .i64 0, .int .i64 (vs.length : Int)] 3)) ∧ (W1.alloc (.cells #[.int .i64 st, .int .i64 ph, .int .i64 0, .int .i64 (vs.length : Int)] 3)).heap.size = W1.heap.size + 1) := ⟨own_lit4 W1 _ (Nat.le_refl _) _ _ _ _, below_alloc _ _, by simp⟩
    go_upto_region 4 with fail
    generalize W1.alloc (.cells #[.int .i64 st, .int .i64 ph, .int .i64 0, .int .i64 (vs.length : Int)] 3) = W3 at *
    obtain ⟨o3', b3', hsz3⟩ := W2.out
    have HSE : Hid (W3.heap.size = W1.heap.size + 1) := hsz3
    generalize hB : W1.heap.size = B at *
    have HBE : Hid (W1.heap.size = B) := hB
    have O3 : Hid (W3.ownsRow B 3 1 (.slice (some ⟨B, 0, none⟩) 4 4) ([st, ph, 0, (vs.length : Int)] : List Int).length (([st, ph, 0, (vs.length : Int)] : List Int).flatMap encI)) := o3'
    have A3 : Hid (Below B W1 W3) := b3'
    obtain ⟨Q3, _, _, _⟩ := HK.out _ b3'
    clear c0 c1 c2 c3 c4 W2 o3' b3' hsz3 hB
    obtain ⟨c0, c1, c2, c3, c4⟩ := Q3.all5
    clear Q3
    obtain ⟨fz, hfz⟩ : ∃ z : Int, (if fr then (1 : Int) else 0) = z := ⟨_, rfl⟩
    have HFZ : Hid ((if fr then (1 : Int) else 0) = fz) := hfz
    rw [hfz] at NE
    clear hfz
    go_upto_if 23 with fail
    go_cut [] from 23 to 23 (fun wx => wx.ownsRow B 3 1 (.slice (some ⟨B, 0, none⟩) 4 4) ([st, ph, fz, (vs.length : Int)] : List Int).length (([st, ph, fz, (vs.length : Int)] : List Int).flatMap encI) ∧ Below B W1 wx)
    case first =>
      cases fr
      · have e : (0 : Int) = fz := by rw [← HFZ.out]; rfl
        subst e
        clear HFZ
        go_wp2_with fail
        go_meet
        case rel => exact ⟨O3.out, A3.out⟩
      · have e : (1 : Int) = fz := by rw [← HFZ.out]; rfl
        subst e
        have O4 : Hid ((W3.setCell ⟨B, 2, none⟩ (.int .i64 1)).ownsRow B 3 1 (.slice (some ⟨B, 0, none⟩) 4 4) ([st, ph, 1, (vs.length : Int)] : List Int).length (([st, ph, 1, (vs.length : Int)] : List Int).flatMap encI)) := own_setN (j := 2) (x := 1) (xs := [st, ph, 0, (vs.length : Int)]) O3.out
        have A4 : Hid (Below B W1 (W3.setCell ⟨B, 2, none⟩ (.int .i64 1))) := A3.out.setCell (p := ⟨B, 2, none⟩) (Nat.le_refl _) _
        have z2 : W3.cell? ⟨B, 2, none⟩ = some (.int .i64 0) := own_atN (xs := [st, ph, 0, (vs.length : Int)]) O3.out (i := 2) rfl
        have z3 := frozenK O3.out 2
        clear HFZ
        go_wp2_with fail
        go_meet
        case rel => exact ⟨O4.out, A4.out⟩
    case rest =>
    obtain ⟨hoc, hbc⟩ := hcut
    have OC : Hid (wc.ownsRow B 3 1 (.slice (some ⟨B, 0, none⟩) 4 4) ([st, ph, fz, (vs.length : Int)] : List Int).length (([st, ph, fz, (vs.length : Int)] : List Int).flatMap encI)) := hoc
    have AC : Hid (Below B W1 wc) := hbc
    have HZ0 : Hid ([st, ph, fz, (vs.length : Int)] ++ pairN 1 (vs.take 0) = [st, ph, fz, (vs.length : Int)]) := by show _ = _; simp [pairN]
    have HL4 : Hid (([st, ph, fz, (vs.length : Int)] : List Int).length = 4) := rfl
    clear hoc hbc O3 A3 HFZ
    generalize [st, ph, fz, (vs.length : Int)] = N0 at *
    go_wp2_with fail
    clear c0 c1 c2 c3 c4
    go_loopw [4, 5] (fun l i wr => ∃ k : Nat, k ≤ vs.length ∧ i = .int .i64 k ∧ (∃ a n c, l = .slice a n c) ∧ wr.ownsRow B 3 1 l (N0 ++ pairN 1 (vs.take k)).length ((N0 ++ pairN 1 (vs.take k)).flatMap encI) ∧ Below B W1 wr) (fun _ i _ => vs.length - (intOf i).toNat)
    case atStart => exact ⟨0, by omega, rfl, ⟨_, _, _, rfl⟩, by rw [HZ0.out]; exact OC.out, AC.out⟩
    case round =>
      clear OC AC HZ0
      obtain ⟨k, hk, rfl, ⟨la, ln, lc, rfl⟩, how, hbel⟩ := hrel
      have OW : Hid (wr.ownsRow B 3 1 (.slice la ln lc) (N0 ++ pairN 1 (vs.take k)).length ((N0 ++ pairN 1 (vs.take k)).flatMap encI)) := how
      have AB : Hid (Below B W1 wr) := hbel
      have hsr : B ≤ wr.heap.size := by have := hbel.size; have := HBE.out; omega
      have hll : (N0 ++ pairN 1 (vs.take k)).length ≤ 500 := by have := HL4.out; rw [List.length_append, pairN_len, List.length_take]; omega
      obtain ⟨Q7, _, MV, _⟩ := HK.out _ hbel
      clear how hbel
      by_cases hlt : k < vs.length
      · obtain ⟨bv, ov, cv', e5, _, _, ltv, hvv⟩ := MlR.at (HK.out W1 (Below.refl _ _)).2.2.1 (by omega)
        injection e5 with e5 _ e6
        subst e5 e6
        obtain ⟨x, hx⟩ := getX hlt
        obtain ⟨y0, y1⟩ := hvv k x hx
        obtain ⟨g1, g2, g3, g4⟩ := HVB.out x (List.mem_of_getElem? hx)
        have HT : Hid (N0 ++ pairN 1 (vs.take (k + 1)) = (N0 ++ pairN 1 (vs.take k)) ++ [x.1 + 1, x.2 + 1]) := by show _ = _; rw [take_snoc hx, pairN_app, pairN_one, List.append_assoc]
        have p0 : (0 : Int) ≤ (k : Int) := by omega
        have p1 : (k : Int) < (vs.length : Int) := by omega
        have w1 : IntKind.i64.wrap (x.1 + 1) = x.1 + 1 := wrap_id64 (by omega) (by omega)
        have w2 : IntKind.i64.wrap (x.2 + 1) = x.2 + 1 := wrap_id64 (by omega) (by omega)
        obtain ⟨x1, x2⟩ := x
        simp only at y0 y1 g1 g2 g3 g4 HT w1 w2
        generalize N0 ++ pairN 1 (vs.take k) = M at *
        have HSB : Hid (∀ V, Below B W1 V → (V.cell? ⟨w.heap.size, 3, none⟩ = some (.slice (some ⟨bv, ov, none⟩) vs.length vc) ∧ V.cell? ⟨bv, ov + k * 2, none⟩ = some (.int .i64 x1) ∧ V.cell? ⟨bv, ov + k * 2 + 1, none⟩ = some (.int .i64 x2))) := fun V hV => ⟨(HK.out V hV).1.all5.2.2.2.1, (hV.cell (p := ⟨bv, ov + k * 2, none⟩) (by have := HBE.out; show bv < B; omega)).trans y0, (hV.cell (p := ⟨bv, ov + k * 2 + 1, none⟩) (by have := HBE.out; show bv < B; omega)).trans y1⟩
        have HS : Hid (∀ V, Below wr.heap.size wr V → (V.cell? ⟨w.heap.size, 3, none⟩ = some (.slice (some ⟨bv, ov, none⟩) vs.length vc) ∧ V.cell? ⟨bv, ov + k * 2, none⟩ = some (.int .i64 x1) ∧ V.cell? ⟨bv, ov + k * 2 + 1, none⟩ = some (.int .i64 x2))) := fun V hV => HSB.out V (AB.out.trans (hV.mono hsr))
        obtain ⟨c0, c1, c2, c3, c4⟩ := Q7.all5
        clear hvv hx Q7 MV y0 y1
        go_upto_region 9 with fail
        clear c0 c1 c2 c3 c4
        have bd : Below wr.heap.size wr wr.drew := (Below.refl _ _).drew
        have HS0 : Hid (wr.drew.cell? ⟨w.heap.size, 3, none⟩ = some (.slice (some ⟨bv, ov, none⟩) vs.length vc) ∧ wr.drew.cell? ⟨bv, ov + k * 2, none⟩ = some (.int .i64 x1) ∧ wr.drew.cell? ⟨bv, ov + k * 2 + 1, none⟩ = some (.int .i64 x2)) := HS.out _ bd
        have ba : Below wr.heap.size wr (wr.drew.alloc (.cells #[.int .i64 (x1 + 1), .int .i64 (x2 + 1)] 3)) := bd.alloc bd.size _
        have HSA : Hid ((wr.drew.alloc (.cells #[.int .i64 (x1 + 1), .int .i64 (x2 + 1)] 3)).cell? ⟨w.heap.size, 3, none⟩ = some (.slice (some ⟨bv, ov, none⟩) vs.length vc) ∧ (wr.drew.alloc (.cells #[.int .i64 (x1 + 1), .int .i64 (x2 + 1)] 3)).cell? ⟨bv, ov + k * 2, none⟩ = some (.int .i64 x1) ∧ (wr.drew.alloc (.cells #[.int .i64 (x1 + 1), .int .i64 (x2 + 1)] 3)).cell? ⟨bv, ov + k * 2 + 1, none⟩ = some (.int .i64 x2)) := HS.out _ ba
        have owA : (wr.drew.alloc (.cells #[.int .i64 (x1 + 1), .int .i64 (x2 + 1)] 3)).ownsRow B 3 1 (.slice la ln lc) M.length (M.flatMap encI) := own_below OW.out ba (Nat.le_refl _)
        obtain ⟨v8, w8, hrun8, hown8, hg8⟩ := run_append_rowK kI (w := wr.drew.alloc (.cells #[.int .i64 (x1 + 1), .int .i64 (x2 + 1)] 3)) 47 B (.slice la ln lc) M owA (.slice (some ⟨wr.heap.size, 0, none⟩) 2 2) [x1 + 1, x2 + 1] (RowK.own encI_len (own_lit2 wr.drew B (by show B ≤ wr.heap.size; omega) (x1 + 1) (x2 + 1))) (by show (M.length + 2) * 8 ≤ _; omega) (by unfold maxLen; simp only [List.length_cons, List.length_nil]; omega) (by have := ba.size; omega)
        have b8 : Below B W1 w8 := (AB.out.trans (ba.mono (by omega))).grown hg8 (by have := ba.size; omega) (fun g hg => (own_ge owA hg).1)
        have HS8 : Hid (w8.cell? ⟨w.heap.size, 3, none⟩ = some (.slice (some ⟨bv, ov, none⟩) vs.length vc) ∧ w8.cell? ⟨bv, ov + k * 2, none⟩ = some (.int .i64 x1) ∧ w8.cell? ⟨bv, ov + k * 2 + 1, none⟩ = some (.int .i64 x2)) := HSB.out _ b8
        refine wp_region_held (S := fun V => (V.cell? ⟨w.heap.size, 3, none⟩ = some (.slice (some ⟨bv, ov, none⟩) vs.length vc) ∧ V.cell? ⟨bv, ov + k * 2, none⟩ = some (.int .i64 x1) ∧ V.cell? ⟨bv, ov + k * 2 + 1, none⟩ = some (.int .i64 x2))) (by kernel_rfl) ?_
        simp only [List.size_toArray, List.length_cons, List.length_nil, Nat.reduceAdd]
        refine takeH (i := 0) (v := .slice la ln lc) (d := 33) rfl rfl (by kernel_rfl) (by kernel_rfl) (by kernel_rfl) (fun _ _ _ h => h) (by rfl) (fun V hV => by obtain ⟨v1, v2, v3⟩ := hV; go_simp) HS0.out ?_
        simp only [Act.put, List.setIfInBounds_toArray, List.set_cons_zero, List.set_cons_succ]
        refine takeH (i := 1) (v := .pointer (some ⟨w.heap.size, 3, none⟩)) (d := 34) rfl rfl (by kernel_rfl) (by kernel_rfl) (by kernel_rfl) (fun _ _ _ h => h) (by rfl) (fun V hV => by obtain ⟨v1, v2, v3⟩ := hV; go_simp) HS0.out ?_
        simp only [Act.put, List.setIfInBounds_toArray, List.set_cons_zero, List.set_cons_succ]
        refine takeH (i := 2) (v := .slice (some ⟨bv, ov, none⟩) vs.length vc) (d := 35) rfl rfl (by kernel_rfl) (by kernel_rfl) (by kernel_rfl) (fun _ _ _ h => h) (by rfl) (fun V hV => by obtain ⟨v1, v2, v3⟩ := hV; go_simp) HS0.out ?_
        simp only [Act.put, List.setIfInBounds_toArray, List.set_cons_zero, List.set_cons_succ]
        refine takeH (i := 3) (v := .int .i64 (k : Int)) (d := 36) rfl rfl (by kernel_rfl) (by kernel_rfl) (by kernel_rfl) (fun _ _ _ h => h) (by rfl) (fun V hV => by obtain ⟨v1, v2, v3⟩ := hV; go_simp) HS0.out ?_
        simp only [Act.put, List.setIfInBounds_toArray, List.set_cons_zero, List.set_cons_succ]
        refine takeH (i := 4) (v := .pointer (some ⟨bv, ov + k * 2, none⟩)) (d := 37) rfl rfl (by kernel_rfl) (by kernel_rfl) (by kernel_rfl) (fun _ _ _ h => h) (by rfl) (fun V hV => by obtain ⟨v1, v2, v3⟩ := hV; go_simp) HS0.out ?_
        simp only [Act.put, List.setIfInBounds_toArray, List.set_cons_zero, List.set_cons_succ]
        refine takeH (i := 5) (v := .pointer (some ⟨bv, ov + k * 2, none⟩)) (d := 38) rfl rfl (by kernel_rfl) (by kernel_rfl) (by kernel_rfl) (fun _ _ _ h => h) (by rfl) (fun V hV => by obtain ⟨v1, v2, v3⟩ := hV; go_simp) HS0.out ?_
        simp only [Act.put, List.setIfInBounds_toArray, List.set_cons_zero, List.set_cons_succ]
        refine takeH (i := 6) (v := .int .i64 x1) (d := 39) rfl rfl (by kernel_rfl) (by kernel_rfl) (by kernel_rfl) (fun _ _ _ h => h) (by rfl) (fun V hV => by obtain ⟨v1, v2, v3⟩ := hV; go_simp) HS0.out ?_
        simp only [Act.put, List.setIfInBounds_toArray, List.set_cons_zero, List.set_cons_succ]
        refine takeH (i := 7) (v := .int .i64 (x1 + 1)) (d := 40) rfl rfl (by kernel_rfl) (by kernel_rfl) (by kernel_rfl) (fun _ _ _ h => h) (by rfl) (fun V hV => by obtain ⟨v1, v2, v3⟩ := hV; go_simp) HS0.out ?_
        simp only [Act.put, List.setIfInBounds_toArray, List.set_cons_zero, List.set_cons_succ]
        refine takeH (i := 8) (v := .pointer (some ⟨w.heap.size, 3, none⟩)) (d := 41) rfl rfl (by kernel_rfl) (by kernel_rfl) (by kernel_rfl) (fun _ _ _ h => h) (by rfl) (fun V hV => by obtain ⟨v1, v2, v3⟩ := hV; go_simp) HS0.out ?_
        simp only [Act.put, List.setIfInBounds_toArray, List.set_cons_zero, List.set_cons_succ]
        refine takeH (i := 9) (v := .slice (some ⟨bv, ov, none⟩) vs.length vc) (d := 42) rfl rfl (by kernel_rfl) (by kernel_rfl) (by kernel_rfl) (fun _ _ _ h => h) (by rfl) (fun V hV => by obtain ⟨v1, v2, v3⟩ := hV; go_simp) HS0.out ?_
        simp only [Act.put, List.setIfInBounds_toArray, List.set_cons_zero, List.set_cons_succ]
        refine takeH (i := 10) (v := .int .i64 (k : Int)) (d := 43) rfl rfl (by kernel_rfl) (by kernel_rfl) (by kernel_rfl) (fun _ _ _ h => h) (by rfl) (fun V hV => by obtain ⟨v1, v2, v3⟩ := hV; go_simp) HS0.out ?_
        simp only [Act.put, List.setIfInBounds_toArray, List.set_cons_zero, List.set_cons_succ]
        refine takeH (i := 11) (v := .pointer (some ⟨bv, ov + k * 2, none⟩)) (d := 44) rfl rfl (by kernel_rfl) (by kernel_rfl) (by kernel_rfl) (fun _ _ _ h => h) (by rfl) (fun V hV => by obtain ⟨v1, v2, v3⟩ := hV; go_simp) HS0.out ?_
        simp only [Act.put, List.setIfInBounds_toArray, List.set_cons_zero, List.set_cons_succ]
        refine takeH (i := 12) (v := .pointer (some ⟨bv, ov + k * 2 + 1, none⟩)) (d := 45) rfl rfl (by kernel_rfl) (by kernel_rfl) (by kernel_rfl) (fun _ _ _ h => h) (by rfl) (fun V hV => by obtain ⟨v1, v2, v3⟩ := hV; go_simp) HS0.out ?_
        simp only [Act.put, List.setIfInBounds_toArray, List.set_cons_zero, List.set_cons_succ]
        refine takeH (i := 13) (v := .int .i64 x2) (d := 46) rfl rfl (by kernel_rfl) (by kernel_rfl) (by kernel_rfl) (fun _ _ _ h => h) (by rfl) (fun V hV => by obtain ⟨v1, v2, v3⟩ := hV; go_simp) HS0.out ?_
        simp only [Act.put, List.setIfInBounds_toArray, List.set_cons_zero, List.set_cons_succ]
        refine takeH (i := 14) (v := .int .i64 (x2 + 1)) (d := 47) rfl rfl (by kernel_rfl) (by kernel_rfl) (by kernel_rfl) (fun _ _ _ h => h) (by rfl) (fun V hV => by obtain ⟨v1, v2, v3⟩ := hV; go_simp) HS0.out ?_
        simp only [Act.put, List.setIfInBounds_toArray, List.set_cons_zero, List.set_cons_succ]
        refine oneH (i := 15) rfl (by kernel_rfl) rfl (op_run (d := 48) (v' := .slice (some ⟨wr.heap.size, 0, none⟩) 2 2) (w' := wr.drew.alloc (.cells #[.int .i64 (x1 + 1), .int .i64 (x2 + 1)] 3)) rfl (by go_simp) ⟨HSA.out, ?_⟩)
        simp only [Act.put, List.setIfInBounds_toArray, List.set_cons_zero, List.set_cons_succ]
        refine oneH (i := 16) rfl (by kernel_rfl) rfl (call_append (d := 49) (s := .tmp 33) (x := .tmp 48) (t := 47) rfl rfl rfl rfl hrun8 ⟨HS8.out, ?_⟩)
        simp only [Act.put, List.setIfInBounds_toArray, List.set_cons_zero, List.set_cons_succ]
        obtain ⟨ya, yn, yc, rfl⟩ : ∃ a n c, v8 = .slice a n c := by
          obtain ⟨p1, p2, e⟩ := (RowK.own encI_len hown8 : InR w8 v8 (M ++ [x1 + 1, x2 + 1])).shape
          exact ⟨_, _, _, e⟩
        refine takeH (i := 17) (v := .slice ya yn yc) (d := 4) rfl rfl (by kernel_rfl) (by kernel_rfl) (by kernel_rfl) (fun _ _ _ h => h) (by rfl) (fun V hV => by obtain ⟨v1, v2, v3⟩ := hV; go_simp) HS8.out ?_
        simp only [Act.put, List.setIfInBounds_toArray, List.set_cons_zero, List.set_cons_succ]
        refine wpAnyH_done (by kernel_rfl) ?_ _
        have NO : Hid (w8.ownsRow B 3 1 (.slice ya yn yc) (M ++ [x1 + 1, x2 + 1]).length ((M ++ [x1 + 1, x2 + 1]).flatMap encI)) := hown8
        have NA : Hid (Below B W1 w8) := b8
        clear HS0 HSA HS8 HS owA hrun8 hown8 hg8 b8 ba bd OW AB
        go_wp2_with fail
        go_roundw
        case rel => exact ⟨k + 1, by omega, by go_num, ⟨_, _, _, rfl⟩, by rw [HT.out]; exact NO.out, NA.out⟩
        case measure => simp [intOf]; omega
      · have ek : vs.take k = vs := List.take_of_length_le (by omega)
        rw [ek] at OW hll
        obtain ⟨c0, c1, c2, c3, c4⟩ := Q7.all5
        generalize N0 ++ pairN 1 vs = N1 at *
        obtain ⟨V7, hV7⟩ : ∃ V, V = wr := ⟨wr, rfl⟩
        rw [← hV7] at OW AB hsr c0 c1 c2 c3 c4 ⊢
        clear ek Q7 MV hV7
        have owA : Hid ((V7.alloc (.cells #[.int .i64 (ms.length : Int)] 3)).ownsRow B 3 1 (.slice la ln lc) N1.length (N1.flatMap encI)) := OW.out.alloc _
        have RL : Hid (InR (V7.alloc (.cells #[.int .i64 (ms.length : Int)] 3)) (.slice (some ⟨V7.heap.size, 0, none⟩) 1 1) [(ms.length : Int)]) := RowK.own encI_len (own_lit1 V7 B hsr _)
        have baA : Hid (Below B W1 (V7.alloc (.cells #[.int .i64 (ms.length : Int)] 3)) ∧ B ≤ (V7.alloc (.cells #[.int .i64 (ms.length : Int)] 3)).heap.size) := ⟨AB.out.alloc hsr _, by simp; omega⟩
        go_wp2_with (at_builtin; refine wpList_append_rowK kI rfl _ _ rfl B _ N1 rfl owA.out _ [(ms.length : Int)] rfl RL.out ?d1 ?d2 baA.out.2 ?_)
        case d1 => show (N1.length + 1) * 8 ≤ _; omega
        case d2 => unfold maxLen; simp only [List.length_cons, List.length_nil]; omega
        intro v8 w8 hown8' hb8 _
        have hown8 : w8.ownsRow B 3 1 v8 (N1 ++ [(ms.length : Int)]).length ((N1 ++ [(ms.length : Int)]).flatMap encI) := by rw [flat_snoc, List.length_append]; exact hown8'
        clear hown8'
        obtain ⟨ya, yn, yc, rfl⟩ : ∃ a n c, v8 = .slice a n c := by
          obtain ⟨p1, p2, e⟩ := (RowK.own encI_len hown8 : InR w8 v8 (N1 ++ [(ms.length : Int)])).shape
          exact ⟨_, _, _, e⟩
        have O8 : Hid (w8.ownsRow B 3 1 (.slice ya yn yc) (N1 ++ [(ms.length : Int)]).length ((N1 ++ [(ms.length : Int)]).flatMap encI)) := hown8
        have A8 : Hid (Below B W1 w8) := baA.out.1.trans hb8
        have HL2 : Hid ((N1 ++ [(ms.length : Int)]).length ≤ 501) := by show _ ≤ _; rw [List.length_append]; simp only [List.length_cons, List.length_nil]; omega
        have HZ2 : Hid ((N1 ++ [(ms.length : Int)]) ++ pairN 0 (ms.take 0) = N1 ++ [(ms.length : Int)]) := by show _ = _; simp [pairN]
        clear hown8 hb8 owA RL baA OW AB c0 c1 c2 c3 c4
        obtain ⟨Q8, _, _, _⟩ := HK.out _ A8.out
        obtain ⟨c0, c1, c2, c3, c4⟩ := Q8.all5
        clear Q8
        generalize N1 ++ [(ms.length : Int)] = N2 at *
        go_wp2_with fail
        clear c0 c1 c2 c3 c4
        go_loopw [4, 6] (fun l i wr => ∃ k : Nat, k ≤ ms.length ∧ i = .int .i64 k ∧ (∃ a n c, l = .slice a n c) ∧ wr.ownsRow B 3 1 l (N2 ++ pairN 0 (ms.take k)).length ((N2 ++ pairN 0 (ms.take k)).flatMap encI) ∧ Below B W1 wr) (fun _ i _ => ms.length - (intOf i).toNat)
        case atStart => exact ⟨0, by omega, rfl, ⟨_, _, _, rfl⟩, by rw [HZ2.out]; exact O8.out, A8.out⟩
        case round =>
          clear O8 A8 HZ2 hsr hll
          obtain ⟨k, hk, rfl, ⟨la, ln, lc, rfl⟩, how, hbel⟩ := hrel
          have OW : Hid (wr.ownsRow B 3 1 (.slice la ln lc) (N2 ++ pairN 0 (ms.take k)).length ((N2 ++ pairN 0 (ms.take k)).flatMap encI)) := how
          have AB : Hid (Below B W1 wr) := hbel
          have hsr : B ≤ wr.heap.size := by have := hbel.size; have := HBE.out; omega
          have hll : (N2 ++ pairN 0 (ms.take k)).length ≤ 11000 := by have := HL2.out; rw [List.length_append, pairN_len, List.length_take]; omega
          obtain ⟨Q7, BW7, _, MM⟩ := HK.out _ hbel
          clear how hbel
          by_cases hlt : k < ms.length
          · obtain ⟨bv, ov, cv', e5, _, _, ltv, hvv⟩ := MlR.at (HK.out W1 (Below.refl _ _)).2.2.2 (by omega)
            injection e5 with e5 _ e6
            subst e5 e6
            obtain ⟨x, hx⟩ := getX hlt
            obtain ⟨y0, y1⟩ := hvv k x hx
            have HT : Hid (N2 ++ pairN 0 (ms.take (k + 1)) = (N2 ++ pairN 0 (ms.take k)) ++ [x.1, x.2]) := by show _ = _; rw [take_snoc hx, pairN_app, pairN_one, List.append_assoc, Int.add_zero, Int.add_zero]
            have p0 : (0 : Int) ≤ (k : Int) := by omega
            have p1 : (k : Int) < (ms.length : Int) := by omega
            obtain ⟨x1, x2⟩ := x
            simp only at y0 y1 HT
            generalize N2 ++ pairN 0 (ms.take k) = M at *
            have HSB : Hid (∀ V, Below B W1 V → (V.cell? ⟨w.heap.size, 4, none⟩ = some (.slice (some ⟨bv, ov, none⟩) ms.length mc) ∧ V.cell? ⟨bv, ov + k * 2, none⟩ = some (.int .i64 x1) ∧ V.cell? ⟨bv, ov + k * 2 + 1, none⟩ = some (.int .i64 x2))) := fun V hV => ⟨(HK.out V hV).1.all5.2.2.2.2, (hV.cell (p := ⟨bv, ov + k * 2, none⟩) (by have := HBE.out; show bv < B; omega)).trans y0, (hV.cell (p := ⟨bv, ov + k * 2 + 1, none⟩) (by have := HBE.out; show bv < B; omega)).trans y1⟩
            have HS : Hid (∀ V, Below wr.heap.size wr V → (V.cell? ⟨w.heap.size, 4, none⟩ = some (.slice (some ⟨bv, ov, none⟩) ms.length mc) ∧ V.cell? ⟨bv, ov + k * 2, none⟩ = some (.int .i64 x1) ∧ V.cell? ⟨bv, ov + k * 2 + 1, none⟩ = some (.int .i64 x2))) := fun V hV => HSB.out V (AB.out.trans (hV.mono hsr))
            obtain ⟨c0, c1, c2, c3, c4⟩ := Q7.all5
            clear hvv hx Q7 MM BW7 y0 y1
            go_upto_region 14 with fail
            clear c0 c1 c2 c3 c4
            have bd : Below wr.heap.size wr wr.drew := (Below.refl _ _).drew
            have HS0 : Hid (wr.drew.cell? ⟨w.heap.size, 4, none⟩ = some (.slice (some ⟨bv, ov, none⟩) ms.length mc) ∧ wr.drew.cell? ⟨bv, ov + k * 2, none⟩ = some (.int .i64 x1) ∧ wr.drew.cell? ⟨bv, ov + k * 2 + 1, none⟩ = some (.int .i64 x2)) := HS.out _ bd
            have ba : Below wr.heap.size wr (wr.drew.alloc (.cells #[.int .i64 (x1), .int .i64 (x2)] 3)) := bd.alloc bd.size _
            have HSA : Hid ((wr.drew.alloc (.cells #[.int .i64 (x1), .int .i64 (x2)] 3)).cell? ⟨w.heap.size, 4, none⟩ = some (.slice (some ⟨bv, ov, none⟩) ms.length mc) ∧ (wr.drew.alloc (.cells #[.int .i64 (x1), .int .i64 (x2)] 3)).cell? ⟨bv, ov + k * 2, none⟩ = some (.int .i64 x1) ∧ (wr.drew.alloc (.cells #[.int .i64 (x1), .int .i64 (x2)] 3)).cell? ⟨bv, ov + k * 2 + 1, none⟩ = some (.int .i64 x2)) := HS.out _ ba
            have owA : (wr.drew.alloc (.cells #[.int .i64 (x1), .int .i64 (x2)] 3)).ownsRow B 3 1 (.slice la ln lc) M.length (M.flatMap encI) := own_below OW.out ba (Nat.le_refl _)
            obtain ⟨v8, w8, hrun8, hown8, hg8⟩ := run_append_rowK kI (w := wr.drew.alloc (.cells #[.int .i64 (x1), .int .i64 (x2)] 3)) 47 B (.slice la ln lc) M owA (.slice (some ⟨wr.heap.size, 0, none⟩) 2 2) [x1, x2] (RowK.own encI_len (own_lit2 wr.drew B (by show B ≤ wr.heap.size; omega) (x1) (x2))) (by show (M.length + 2) * 8 ≤ _; omega) (by unfold maxLen; simp only [List.length_cons, List.length_nil]; omega) (by have := ba.size; omega)
            have b8 : Below B W1 w8 := (AB.out.trans (ba.mono (by omega))).grown hg8 (by have := ba.size; omega) (fun g hg => (own_ge owA hg).1)
            have HS8 : Hid (w8.cell? ⟨w.heap.size, 4, none⟩ = some (.slice (some ⟨bv, ov, none⟩) ms.length mc) ∧ w8.cell? ⟨bv, ov + k * 2, none⟩ = some (.int .i64 x1) ∧ w8.cell? ⟨bv, ov + k * 2 + 1, none⟩ = some (.int .i64 x2)) := HSB.out _ b8
            refine wp_region_held (S := fun V => (V.cell? ⟨w.heap.size, 4, none⟩ = some (.slice (some ⟨bv, ov, none⟩) ms.length mc) ∧ V.cell? ⟨bv, ov + k * 2, none⟩ = some (.int .i64 x1) ∧ V.cell? ⟨bv, ov + k * 2 + 1, none⟩ = some (.int .i64 x2))) (by kernel_rfl) ?_
            simp only [List.size_toArray, List.length_cons, List.length_nil, Nat.reduceAdd]
            refine takeH (i := 0) (v := .slice la ln lc) (d := 63) rfl rfl (by kernel_rfl) (by kernel_rfl) (by kernel_rfl) (fun _ _ _ h => h) (by rfl) (fun V hV => by obtain ⟨v1, v2, v3⟩ := hV; go_simp) HS0.out ?_
            simp only [Act.put, List.setIfInBounds_toArray, List.set_cons_zero, List.set_cons_succ]
            refine takeH (i := 1) (v := .pointer (some ⟨w.heap.size, 4, none⟩)) (d := 64) rfl rfl (by kernel_rfl) (by kernel_rfl) (by kernel_rfl) (fun _ _ _ h => h) (by rfl) (fun V hV => by obtain ⟨v1, v2, v3⟩ := hV; go_simp) HS0.out ?_
            simp only [Act.put, List.setIfInBounds_toArray, List.set_cons_zero, List.set_cons_succ]
            refine takeH (i := 2) (v := .slice (some ⟨bv, ov, none⟩) ms.length mc) (d := 65) rfl rfl (by kernel_rfl) (by kernel_rfl) (by kernel_rfl) (fun _ _ _ h => h) (by rfl) (fun V hV => by obtain ⟨v1, v2, v3⟩ := hV; go_simp) HS0.out ?_
            simp only [Act.put, List.setIfInBounds_toArray, List.set_cons_zero, List.set_cons_succ]
            refine takeH (i := 3) (v := .int .i64 (k : Int)) (d := 66) rfl rfl (by kernel_rfl) (by kernel_rfl) (by kernel_rfl) (fun _ _ _ h => h) (by rfl) (fun V hV => by obtain ⟨v1, v2, v3⟩ := hV; go_simp) HS0.out ?_
            simp only [Act.put, List.setIfInBounds_toArray, List.set_cons_zero, List.set_cons_succ]
            refine takeH (i := 4) (v := .pointer (some ⟨bv, ov + k * 2, none⟩)) (d := 67) rfl rfl (by kernel_rfl) (by kernel_rfl) (by kernel_rfl) (fun _ _ _ h => h) (by rfl) (fun V hV => by obtain ⟨v1, v2, v3⟩ := hV; go_simp) HS0.out ?_
            simp only [Act.put, List.setIfInBounds_toArray, List.set_cons_zero, List.set_cons_succ]
            refine takeH (i := 5) (v := .pointer (some ⟨bv, ov + k * 2, none⟩)) (d := 68) rfl rfl (by kernel_rfl) (by kernel_rfl) (by kernel_rfl) (fun _ _ _ h => h) (by rfl) (fun V hV => by obtain ⟨v1, v2, v3⟩ := hV; go_simp) HS0.out ?_
            simp only [Act.put, List.setIfInBounds_toArray, List.set_cons_zero, List.set_cons_succ]
            refine takeH (i := 6) (v := .int .i64 x1) (d := 69) rfl rfl (by kernel_rfl) (by kernel_rfl) (by kernel_rfl) (fun _ _ _ h => h) (by rfl) (fun V hV => by obtain ⟨v1, v2, v3⟩ := hV; go_simp) HS0.out ?_
            simp only [Act.put, List.setIfInBounds_toArray, List.set_cons_zero, List.set_cons_succ]
            refine takeH (i := 7) (v := .pointer (some ⟨w.heap.size, 4, none⟩)) (d := 70) rfl rfl (by kernel_rfl) (by kernel_rfl) (by kernel_rfl) (fun _ _ _ h => h) (by rfl) (fun V hV => by obtain ⟨v1, v2, v3⟩ := hV; go_simp) HS0.out ?_
            simp only [Act.put, List.setIfInBounds_toArray, List.set_cons_zero, List.set_cons_succ]
            refine takeH (i := 8) (v := .slice (some ⟨bv, ov, none⟩) ms.length mc) (d := 71) rfl rfl (by kernel_rfl) (by kernel_rfl) (by kernel_rfl) (fun _ _ _ h => h) (by rfl) (fun V hV => by obtain ⟨v1, v2, v3⟩ := hV; go_simp) HS0.out ?_
            simp only [Act.put, List.setIfInBounds_toArray, List.set_cons_zero, List.set_cons_succ]
            refine takeH (i := 9) (v := .int .i64 (k : Int)) (d := 72) rfl rfl (by kernel_rfl) (by kernel_rfl) (by kernel_rfl) (fun _ _ _ h => h) (by rfl) (fun V hV => by obtain ⟨v1, v2, v3⟩ := hV; go_simp) HS0.out ?_
            simp only [Act.put, List.setIfInBounds_toArray, List.set_cons_zero, List.set_cons_succ]
            refine takeH (i := 10) (v := .pointer (some ⟨bv, ov + k * 2, none⟩)) (d := 73) rfl rfl (by kernel_rfl) (by kernel_rfl) (by kernel_rfl) (fun _ _ _ h => h) (by rfl) (fun V hV => by obtain ⟨v1, v2, v3⟩ := hV; go_simp) HS0.out ?_
            simp only [Act.put, List.setIfInBounds_toArray, List.set_cons_zero, List.set_cons_succ]
            refine takeH (i := 11) (v := .pointer (some ⟨bv, ov + k * 2 + 1, none⟩)) (d := 74) rfl rfl (by kernel_rfl) (by kernel_rfl) (by kernel_rfl) (fun _ _ _ h => h) (by rfl) (fun V hV => by obtain ⟨v1, v2, v3⟩ := hV; go_simp) HS0.out ?_
            simp only [Act.put, List.setIfInBounds_toArray, List.set_cons_zero, List.set_cons_succ]
            refine takeH (i := 12) (v := .int .i64 x2) (d := 75) rfl rfl (by kernel_rfl) (by kernel_rfl) (by kernel_rfl) (fun _ _ _ h => h) (by rfl) (fun V hV => by obtain ⟨v1, v2, v3⟩ := hV; go_simp) HS0.out ?_
            simp only [Act.put, List.setIfInBounds_toArray, List.set_cons_zero, List.set_cons_succ]
            refine oneH (i := 13) rfl (by kernel_rfl) rfl (op_run (d := 76) (v' := .slice (some ⟨wr.heap.size, 0, none⟩) 2 2) (w' := wr.drew.alloc (.cells #[.int .i64 (x1), .int .i64 (x2)] 3)) rfl (by go_simp) ⟨HSA.out, ?_⟩)
            simp only [Act.put, List.setIfInBounds_toArray, List.set_cons_zero, List.set_cons_succ]
            refine oneH (i := 14) rfl (by kernel_rfl) rfl (call_append (d := 77) (s := .tmp 63) (x := .tmp 76) (t := 47) rfl rfl rfl rfl hrun8 ⟨HS8.out, ?_⟩)
            simp only [Act.put, List.setIfInBounds_toArray, List.set_cons_zero, List.set_cons_succ]
            obtain ⟨ya, yn, yc, rfl⟩ : ∃ a n c, v8 = .slice a n c := by
              obtain ⟨p1, p2, e⟩ := (RowK.own encI_len hown8 : InR w8 v8 (M ++ [x1, x2])).shape
              exact ⟨_, _, _, e⟩
            refine takeH (i := 15) (v := .slice ya yn yc) (d := 4) rfl rfl (by kernel_rfl) (by kernel_rfl) (by kernel_rfl) (fun _ _ _ h => h) (by rfl) (fun V hV => by obtain ⟨v1, v2, v3⟩ := hV; go_simp) HS8.out ?_
            simp only [Act.put, List.setIfInBounds_toArray, List.set_cons_zero, List.set_cons_succ]
            refine wpAnyH_done (by kernel_rfl) ?_ _
            have NO : Hid (w8.ownsRow B 3 1 (.slice ya yn yc) (M ++ [x1, x2]).length ((M ++ [x1, x2]).flatMap encI)) := hown8
            have NA : Hid (Below B W1 w8) := b8
            clear HS0 HSA HS8 HS owA hrun8 hown8 hg8 b8 ba bd OW AB
            go_wp2_with fail
            go_roundw
            case rel => exact ⟨k + 1, by omega, by go_num, ⟨_, _, _, rfl⟩, by rw [HT.out]; exact NO.out, NA.out⟩
            case measure => simp [intOf]; omega
          · have ek : ms.take k = ms := List.take_of_length_le (by omega)
            rw [ek, ← NE.out] at OW
            have HB7 : Hid (Below w.heap.size w wr) := BW7
            obtain ⟨c0, c1, c2, c3, c4⟩ := Q7.all5
            obtain ⟨V9, hV9⟩ : ∃ V, V = wr := ⟨wr, rfl⟩
            rw [← hV9] at OW AB hsr HB7 c0 c1 c2 c3 c4 ⊢
            obtain ⟨p1, p2, e9⟩ := (RowK.own encI_len OW.out : InR V9 (.slice la ln lc) NS).shape
            injection e9 with e9 e10 e11
            subst e9 e10 e11
            have hnl := HNL.out
            clear ek Q7 MM hV9 BW7 hll HK HL2 HVB NE
            go_wp2_with fail
            clear c0 c1 c2 c3 c4
            go_loopw [7, 8] (fun l i wr => ∃ k : Nat, k ≤ NS.length ∧ i = .int .i64 k ∧ (∃ a n c, l = .slice a n c) ∧ wr.ownsRow V9.heap.size 5 1 l (bytN (NS.take k)).length ((bytN (NS.take k)).map (Value.int .u8)) ∧ Below V9.heap.size V9 wr) (fun _ i _ => NS.length - (intOf i).toNat)
            case atStart => exact ⟨0, by omega, rfl, ⟨_, _, _, rfl⟩, World.ownsRow_nil _ _ _ _, Below.refl _ _⟩
            case round =>
              obtain ⟨k, hk, rfl, ⟨pa, pn, pc, rfl⟩, how, hbel⟩ := hrel
              have OB : Hid (wr.ownsRow V9.heap.size 5 1 (.slice pa pn pc) (bytN (NS.take k)).length ((bytN (NS.take k)).map (Value.int .u8))) := how
              have A9 : Hid (Below V9.heap.size V9 wr) := hbel
              have hs9 := hbel.size
              have hlb : (bytN (NS.take k)).length ≤ 110000 := by
                have h1 := bytN_len (NS.take k)
                rw [List.length_take] at h1
                omega
              clear how hbel
              by_cases hlt : k < NS.length
              · obtain ⟨b, off, cap', e1, _, _, lt, hv⟩ := InR.at ((RowK.own encI_len OW.out : InR V9 (.slice la NS.length lc) NS).below A9.out (Nat.le_refl _)) (by omega)
                injection e1 with e1 _ e3
                subst e1 e3
                obtain ⟨x, hx⟩ := getX hlt
                have d1 := hv k x hx
                obtain ⟨g1, g2⟩ := HNI.out x (List.mem_of_getElem? hx)
                have HT : Hid (bytN (NS.take (k + 1)) = bytN (NS.take k) ++ put x) := by show _ = _; rw [take_snoc hx, bytN_app, bytN_one]
                have p0 : (0 : Int) ≤ (k : Int) := by omega
                have p1 : (k : Int) < (NS.length : Int) := by omega
                have wx : IntKind.u64.wrap x = x := by rw [IntKind.wrap_u64]; omega
                have hpl := putLen_le x
                have CP : Hid (∀ X, Calls Try.prog 24 #[.int .u64 x] X fun e w' => ∃ v', e = .returned v' ∧ w'.ownsRow X.heap.size 5 1 v' (put x).length ((put x).map (Value.int .u8)) ∧ Below X.heap.size X w') := fun X => packed_any 9 x X g1 (by omega) (by omega)
                generalize bytN (NS.take k) = M at *
                clear hv hx
                go_wp2_with fail
                refine (CP.out _).mono ?_
                rintro e w2 ⟨v2, rfl, ho2, hb2⟩
                have O2 : Hid (w2.ownsRow V9.heap.size 5 1 (.slice pa pn pc) M.length (M.map (Value.int .u8))) := own_below OB.out hb2 (Nat.le_refl _)
                have R2 : Hid (Reads .u8 w2 v2 (put x)) := reads_own ho2
                have A2 : Hid (Below V9.heap.size V9 w2) := A9.out.trans (hb2.mono hs9)
                have hs2 := A2.out.size
                obtain ⟨qa, qn, qc, rfl⟩ : ∃ a n c, v2 = .slice a n c := by
                  rcases ho2.2 with ⟨hv, h0⟩ | ⟨g, cap, cur, hv, _⟩
                  · exact ⟨none, 0, 0, hv⟩
                  · exact ⟨_, _, _, hv⟩
                clear ho2 hb2 CP d1
                go_wp2_with (at_builtin; refine wpList_append_reads rfl _ _ rfl V9.heap.size _ M rfl O2.out _ (put x) rfl R2.out (by omega) hs2 ?_)
                intro v3 w3 hown3 hb3 _
                obtain ⟨qa3, qn3, qc3, rfl⟩ : ∃ a n c, v3 = .slice a n c := by
                  rcases hown3.2 with ⟨hv, h0⟩ | ⟨g, cap, cur, hv, _⟩
                  · exact ⟨none, 0, 0, hv⟩
                  · exact ⟨_, _, _, hv⟩
                have O3 : Hid (w3.ownsRow V9.heap.size 5 1 (.slice qa3 qn3 qc3) (M ++ put x).length ((M ++ put x).map (Value.int .u8))) := by show World.ownsRow _ _ _ _ _ _ _; simpa using hown3
                have A3 : Hid (Below V9.heap.size V9 w3) := A2.out.trans hb3
                clear hown3 hb3
                go_wp2_with fail
                go_roundw
                case rel => exact ⟨k + 1, by omega, by go_num, ⟨_, _, _, rfl⟩, by rw [HT.out]; exact O3.out, A3.out⟩
                case measure => simp [intOf]; omega
              · have ek : NS.take k = NS := List.take_of_length_le (by omega)
                rw [ek] at OB
                have hpn : pn = (bytN NS).length := own_lenB OB.out
                have HB9 : Hid (Below w.heap.size w wr) := HB7.out.trans (A9.out.mono HB7.out.size)
                have RN : Hid (Reads .u8 wr (.slice pa pn pc) (bytN NS)) := reads_own OB.out
                subst hpn
                generalize bytN NS = NN at *
                clear ek A9 OB OW AB HB7 HNI
                by_cases hsz : NN.length ≤ 20000
                · have HRE : Hid (R = (wrap NN, 0)) := EY2.out hsz
                  have CW : Hid (∀ X, X = wr → _) := fun X (_ : X = wr) => wrapped_any (.slice pa NN.length pc) NN wr RN.out HNB.out hsz
                  clear EB2 EY2
                  go_wp2_with fail
                  refine (CW.out _ rfl).mono ?_
                  rintro e W9 ⟨v9, rfl, ho9, hb9⟩
                  have HP : Hid (BytP2 w R (.returned (.tuple #[v9, .int .i64 0])) W9) := by
                    show BytP2 _ _ _ _
                    rw [HRE.out]
                    exact ⟨_, rfl, own_lower ho9 HB9.out.size, HB9.out.trans (hb9.mono HB9.out.size)⟩
                  clear ho9 hb9 CW
                  generalize BytP2 w R = P at *
                  go_wp2_with fail
                  exact HP.out
                · have HRE : Hid (R = ([], 1)) := EB2.out hsz
                  have CW : Hid (∀ X, X = wr → _) := fun X (_ : X = wr) => wrapped_over pa NN.length pc wr (by omega)
                  clear EB2 EY2
                  go_wp2_with fail
                  refine (CW.out _ rfl).mono ?_
                  rintro e W9 ⟨rfl, rfl⟩
                  have HP : Hid (BytP2 w R (.returned (.tuple #[.slice none 0 0, .int .i64 1])) W9) := by
                    show BytP2 _ _ _ _
                    rw [HRE.out]
                    exact BytP2.no HB9.out
                  clear CW
                  generalize BytP2 w R = P at *
                  go_wp2_with fail
                  exact HP.out
end Go.Proofs.Ytbfkmakfkbdafaa
