/-
  Contract of ckpt.Newest.
  A region that draws its order: two operations may come up; a call that makes memory.
  Contract of the document's own Dec: the decimal digits of a number that is not below 0.
  Contract of the document's SlotName.
  P14.3 as the document reads it: numbers all, then what they say.
  While the document's SavedOf makes what is saved: its box, and the rows behind it.
  Contracts of queue.anyBarred (its closure, slices.IndexFunc and ContainsFunc over it) and of the document's own MailMay.
  Contracts of the document's own MailAhead and IsOrdered; an insertion in plain mathematics.
  Contracts of the document's own ValueMay (at Dist) and SavedMay.
  Contracts of frame.Sum and of the document's own sum, told bit by bit: both answer P2.1.
  Contract of pacelineref.Packed: it returns the bytes of P1.1 in memory of its own; nothing else is written.
  Contract of the document's own frame: that of P2.2 in memory of its own, or the error; nothing else is written.
  Rows of numbers of the call's own: a number in them, a store into them.
  Contract of the document's own SavedBytes: what P14.2 says.
  Contract of pacelineref.Unpacked: it returns what P1.2 says of the bytes that the slice reads as, and the world is as it was.
  Contract of the document's own Unwrapped: payload, count of bytes and error are those of P2.3; nothing that was there is written.
  Contract of the document's own small.
  Contract of the document's SavedOf: P14.3.
  Contract of the document's LoadedSlot.
-/
import Derived.Test.YthakibcfmbkpkaaDoorCkptNewestsPartA
import Derived.Test.YthakibcfmbkpkaaDoorRowBase
import Derived.Lib.ItoaNum
import Derived.Lib.ItoaLen
import Derived.Lib.ItoaMem
import Derived.Shelf.Abstract
import Derived.Test.YthakibcfmbkpkaaDoorSlotName
import Derived.Test.YthakibcfmbkpkaaDoorSavedParse
import Derived.Test.YthakibcfmbkpkaaDoorInWalk
import Derived.Test.YthakibcfmbkpkaaDoorMailMath
import Derived.Deep.QuietTactic
import Derived.BigQuiet
import Derived.Lib.QuietBelow
import Derived.Test.YthakibcfmbkpkaaDoorSavedMath
import Derived.Deep.CutRange
import Derived.Test.YthakibcfmbkpkaaDoorSumWalk
import Derived.Test.YthakibcfmbkpkaaDoorPutWalk
import Derived.Test.YthakibcfmbkpkaaDoorWrapWalk
import Derived.Test.YthakibcfmbkpkaaDoorRowNew
import Derived.Test.YthakibcfmbkpkaaDoorGetWalk
import Derived.Test.YthakibcfmbkpkaaDoorUnwrapWalk
import Derived.Test.YthakibcfmbkpkaaDoorNumMath
import Derived.Test.YthakibcfmbkpkaaDoorCutBytes
import Derived.Test.YthakibcfmbkpkaaDoorBoxMem

namespace Go.Proofs.YthakibcfmbkpkaaDoor
set_option maxRecDepth 100000
open Go.ChangeShapes Go.WideShapes Go.ChangeAt Go.RowKit

set_option maxHeartbeats 4000000 in
set_option maxRecDepth 100000 in
theorem ckNewest_any (v : Value) (fs : List FileL) (n : Int) (w : World) (h : DiskR w v fs) (hg : Good fs) :
    Calls Tryd.prog 13 #[.agg #[v], .int .i64 n] w (SvdP w (newE fs n)) := by
  have HD : Hid (DiskR w v fs) := h
  have HG : Hid (Good fs) := hg
  obtain ⟨a, cap, rfl⟩ : ∃ a c, v = .slice a fs.length c := by obtain ⟨a, c, e, _⟩ := h; exact ⟨a, c, e⟩
  clear h hg
  obtain ⟨W0, hW0⟩ : ∃ W0, W0 = (w.alloc (.cells #[.slice a fs.length cap] 24)).alloc (.cells #[.int .i64 0, .int .i64 0, .bool false, .slice none 0 0, .slice none 0 0] 34) := ⟨_, rfl⟩
  obtain ⟨Q0, M0, B0, s1, s2⟩ := boxes2 w #[.slice a fs.length cap] #[.int .i64 0, .int .i64 0, .bool false, .slice none 0 0, .slice none 0 0] 24 34 W0 hW0
  have HK : Hid (∀ X, Below W0.heap.size W0 X → BX 24 X w.heap.size #[.slice a fs.length cap] ∧ BX 34 X (w.heap.size + 1) #[.int .i64 0, .int .i64 0, .bool false, .slice none 0 0, .slice none 0 0] ∧ Below w.heap.size w X ∧ DiskR X (.slice a fs.length cap) fs) := fun X hX => by
    have hb := B0.trans (hX.mono (show w.heap.size ≤ W0.heap.size by omega))
    exact ⟨Q0.below hX (by omega), M0.below hX (by omega), hb, HD.out.below hb (Nat.le_refl _)⟩
  have A0 : Hid (Below W0.heap.size W0 W0) := Below.refl _ _
  obtain ⟨q0, _⟩ := Q0.all1
  clear Q0 M0 B0
  have HN : Hid (∀ f, newE fs n = (sv0, f) → ∀ w', Below w.heap.size w w' → SvdP w (newE fs n) (.returned (.tuple #[.agg #[.int .i64 0, .int .i64 0, .bool false, .slice none 0 0, .slice none 0 0], .int .i64 f])) w') := fun f h w' hb => by rw [h]; exact SvdP.no hb
  have HY : Hid (∀ s f, newE fs n = (s, f) → ∀ v1 v2 w', w'.ownsRow w.heap.size 73 2 v1 s.vals.length (s.vals.flatMap encM) → w'.ownsRow w.heap.size 75 2 v2 s.mail.length (s.mail.flatMap encM) → Below w.heap.size w w' → SvdP w (newE fs n) (.returned (.tuple #[.agg #[.int .i64 s.step, .int .i64 s.phase, .bool s.fresh, v1, v2], .int .i64 f])) w') := fun s f h v1 v2 w' h1 h2 h3 => by rw [h]; exact SvdP.at h1 h2 h3
  generalize SvdP w (newE fs n) = P at *
  have N1 : Hid (BX 34 (W0.alloc (.cells #[.int .i64 0, .int .i64 0, .bool false, .slice none 0 0, .slice none 0 0] 34)) W0.heap.size #[.int .i64 0, .int .i64 0, .bool false, .slice none 0 0, .slice none 0 0] ∧ Below W0.heap.size W0 (W0.alloc (.cells #[.int .i64 0, .int .i64 0, .bool false, .slice none 0 0, .slice none 0 0] 34))) := ⟨BX.new _ _ _, below_alloc _ _⟩
  cases hm : mayB fs
  case false =>
    have HE : Hid (∀ w', Below w.heap.size w w' → P (.returned (.tuple #[.agg #[.int .i64 0, .int .i64 0, .bool false, .slice none 0 0, .slice none 0 0], .int .i64 9])) w') := HN.out 9 (newE_no hm)
    have CL : Hid (∀ X, DiskR X (.slice a fs.length cap) fs → Calls Tryd.prog 10 #[.agg #[.slice a fs.length cap], .int .i64 0] X (SvdP X (sv0, 9))) := fun X h => by
      have := ckLoad_any _ fs 0 X h HG.out
      rwa [show loadE fs 0 = (sv0, 9) from loadE_state hm 0 (by omega)] at this
    clear HN HY hm
    go_enter Tryd.func13, Tryd.ntmps13
    go_upto_region 1 with fail
    rw [← hW0]
    clear hW0
    go_upto_region 2 with fail
    generalize W0.alloc (.cells #[.int .i64 0, .int .i64 0, .bool false, .slice none 0 0, .slice none 0 0] 34) = W1 at *
    clear q0
    go_wp2_with fail
    go_loopw [12] (fun i wr => i = .int .i64 0 ∧ Below W0.heap.size W0 wr) (fun i _ => 2 - (intOf i).toNat)
    case atStart => exact ⟨rfl, N1.out.2⟩
    case round =>
      obtain ⟨rfl, hbel⟩ := hrel
      have HB : Hid (Below W0.heap.size W0 wr) := hbel
      clear hbel
      obtain ⟨q0, _⟩ := (HK.out _ HB.out).1.all1
      go_wp2_with fail
      refine (CL.out _ (HK.out _ HB.out).2.2.2).mono ?_
      rintro e w4 ⟨u1, u2, rfl, hu1, hu2, hb4⟩
      obtain ⟨ua, uc, rfl⟩ := (RowK.own encM_len hu1 : MlR w4 u1 sv0.vals).shape
      obtain ⟨ya, yc, rfl⟩ := (RowK.own encM_len hu2 : MlR w4 u2 sv0.mail).shape
      have A4 : Hid (Below W0.heap.size W0 (w4.alloc (.cells #[.int .i64 sv0.step, .int .i64 sv0.phase, .bool sv0.fresh, .slice ua sv0.vals.length uc, .slice ya sv0.mail.length yc] 34))) := by
        have h := HB.out.trans (hb4.mono HB.out.size)
        exact h.alloc h.size _
      clear hu1 hu2 hb4 q0
      go_upto_region 6 with fail
      generalize w4.alloc (.cells #[.int .i64 sv0.step, .int .i64 sv0.phase, .bool sv0.fresh, .slice ua sv0.vals.length uc, .slice ya sv0.mail.length yc] 34) = w5 at *
      obtain ⟨m0, m1, m2, m3, m4⟩ := (HK.out _ A4.out).2.1.all5
      obtain ⟨f0, f1, f2, f3, f4⟩ := (HK.out _ A4.out).2.1.all5f
      have HX : Hid (P (.returned (.tuple #[.agg #[.int .i64 0, .int .i64 0, .bool false, .slice none 0 0, .slice none 0 0], .int .i64 9])) (putS w5 (w.heap.size + 1) (.int .i64 0) (.int .i64 0) (.bool false) (.slice none 0 0) (.slice none 0 0))) := HE.out _ (below_putS (HK.out _ A4.out).2.2.1 (Nat.le_succ _) _ _ _ _ _)
      have RX : Hid (BX 34 (putS w5 (w.heap.size + 1) (.int .i64 0) (.int .i64 0) (.bool false) (.slice none 0 0) (.slice none 0 0)) (w.heap.size + 1) #[.int .i64 0, .int .i64 0, .bool false, .slice none 0 0, .slice none 0 0]) := BX.putS (HK.out _ A4.out).2.1
      go_wp2_with fail
      obtain ⟨r0, r1, r2, r3, r4⟩ := RX.out.all5
      unfold putS at r0 r1 r2 r3 r4
      exact bodyPost_ret (v := .tuple #[.agg #[.int .i64 0, .int .i64 0, .bool false, .slice none 0 0, .slice none 0 0], .int .i64 9]) (by simp [results, Tryd.results13, go_sem, r0, r1, r2, r3, r4]) rfl HX.out
  have KA : Hid (∀ k, k < 2 → (loadE fs (k : Nat)).2 ≠ 9) := fun k hk => loadE_nine hm k hk
  have HE2 : Hid (∀ s f, curN fs n 2 = (s, f) → ∀ v1 v2 w', w'.ownsRow w.heap.size 73 2 v1 s.vals.length (s.vals.flatMap encM) → w'.ownsRow w.heap.size 75 2 v2 s.mail.length (s.mail.flatMap encM) → Below w.heap.size w w' → P (.returned (.tuple #[.agg #[.int .i64 s.step, .int .i64 s.phase, .bool s.fresh, v1, v2], .int .i64 f])) w') := fun s f h => HY.out s f ((newE_yes hm).trans h)
  clear HN HY hm
  go_enter Tryd.func13, Tryd.ntmps13
  go_upto_region 1 with fail
  rw [← hW0]
  clear hW0
  go_upto_region 2 with fail
  generalize W0.alloc (.cells #[.int .i64 0, .int .i64 0, .bool false, .slice none 0 0, .slice none 0 0] 34) = W1 at *
  clear q0
  go_wp2_with fail
  go_loopw [7, 12] (fun z i wr => ∃ (k : Nat) (c : SvS) (t : Int) (v1 v2 : Value), k ≤ 2 ∧ i = .int .i64 k ∧ z = .int .i64 t ∧ curN fs n k = (c, t) ∧ BX 34 wr W0.heap.size #[.int .i64 c.step, .int .i64 c.phase, .bool c.fresh, v1, v2] ∧ wr.ownsRow W0.heap.size 73 2 v1 c.vals.length (c.vals.flatMap encM) ∧ wr.ownsRow W0.heap.size 75 2 v2 c.mail.length (c.mail.flatMap encM) ∧ Below W0.heap.size W0 wr) (fun _ i _ => 2 - (intOf i).toNat)
  case atStart => exact ⟨0, sv0, 7, _, _, by omega, rfl, rfl, rfl, N1.out.1, World.ownsRow_nil _ _ _ _, World.ownsRow_nil _ _ _ _, N1.out.2⟩
  case round =>
    obtain ⟨k, c, t, v1, v2, hk, rfl, rfl, hc, hq, ho1, ho2, hbel⟩ := hrel
    have HB : Hid (Below W0.heap.size W0 wr) := hbel
    have HC : Hid (curN fs n k = (c, t)) := hc
    obtain ⟨ca, cc, rfl⟩ := (RowK.own encM_len ho1 : MlR wr v1 c.vals).shape
    obtain ⟨cb, cd, rfl⟩ := (RowK.own encM_len ho2 : MlR wr v2 c.mail).shape
    have HO : Hid (wr.ownsRow W0.heap.size 73 2 (.slice ca c.vals.length cc) c.vals.length (c.vals.flatMap encM) ∧ wr.ownsRow W0.heap.size 75 2 (.slice cb c.mail.length cd) c.mail.length (c.mail.flatMap encM)) := ⟨ho1, ho2⟩
    have HQ : Hid (BX 34 wr W0.heap.size #[.int .i64 c.step, .int .i64 c.phase, .bool c.fresh, .slice ca c.vals.length cc, .slice cb c.mail.length cd]) := hq
    have hsr := hbel.size
    clear hc hq ho1 ho2 hbel
    by_cases hlt : k < 2
    · have h9 : (loadE fs (k : Int)).2 ≠ 9 := KA.out k hlt
      have CL : Hid (∀ X, DiskR X (.slice a fs.length cap) fs → Calls Tryd.prog 10 #[.agg #[.slice a fs.length cap], .int .i64 (k : Int)] X (SvdP X (loadE fs (k : Int)))) := fun X h => ckLoad_any _ fs k X h HG.out
      have J1 : Hid (¬ ((loadE fs (k : Int)).2 = 0 ∧ (loadE fs (k : Int)).1.step ≤ n) → curN fs n (k + 1) = (c, t)) := fun h => (curN_skip h).trans HC.out
      have J2 : Hid ((loadE fs (k : Int)).2 = 0 ∧ (loadE fs (k : Int)).1.step ≤ n → (t ≠ 0 ∨ c.step < (loadE fs (k : Int)).1.step) → curN fs n (k + 1) = ((loadE fs (k : Int)).1, 0)) := fun h h2 => curN_take h (by rw [HC.out]; exact h2)
      have J3 : Hid (¬ (t ≠ 0 ∨ c.step < (loadE fs (k : Int)).1.step) → curN fs n (k + 1) = (c, t)) := fun h2 => (curN_keep (by rw [HC.out]; exact h2)).trans HC.out
      generalize loadE fs (k : Int) = L at *
      obtain ⟨s, t2⟩ := L
      simp only at h9 J1 J2 J3
      have e9 : (t2 == 9) = false := by simpa using h9
      clear h9
      obtain ⟨q0, _⟩ := (HK.out _ HB.out).1.all1
      go_wp2_with fail
      refine (CL.out _ (HK.out _ HB.out).2.2.2).mono ?_
      rintro e w4 ⟨u1, u2, rfl, hu1, hu2, hb4⟩
      obtain ⟨ua, uc, rfl⟩ := (RowK.own encM_len hu1 : MlR w4 u1 s.vals).shape
      obtain ⟨ya, yc, rfl⟩ := (RowK.own encM_len hu2 : MlR w4 u2 s.mail).shape
      have E4 : Hid (Below W0.heap.size W0 (w4.alloc (.cells #[.int .i64 s.step, .int .i64 s.phase, .bool s.fresh, .slice ua s.vals.length uc, .slice ya s.mail.length yc] 34)) ∧ BX 34 (w4.alloc (.cells #[.int .i64 s.step, .int .i64 s.phase, .bool s.fresh, .slice ua s.vals.length uc, .slice ya s.mail.length yc] 34)) w4.heap.size #[.int .i64 s.step, .int .i64 s.phase, .bool s.fresh, .slice ua s.vals.length uc, .slice ya s.mail.length yc] ∧ BX 34 (w4.alloc (.cells #[.int .i64 s.step, .int .i64 s.phase, .bool s.fresh, .slice ua s.vals.length uc, .slice ya s.mail.length yc] 34)) W0.heap.size #[.int .i64 c.step, .int .i64 c.phase, .bool c.fresh, .slice ca c.vals.length cc, .slice cb c.mail.length cd] ∧ ((w4.alloc (.cells #[.int .i64 s.step, .int .i64 s.phase, .bool s.fresh, .slice ua s.vals.length uc, .slice ya s.mail.length yc] 34)).ownsRow W0.heap.size 73 2 (.slice ca c.vals.length cc) c.vals.length (c.vals.flatMap encM) ∧ (w4.alloc (.cells #[.int .i64 s.step, .int .i64 s.phase, .bool s.fresh, .slice ua s.vals.length uc, .slice ya s.mail.length yc] 34)).ownsRow W0.heap.size 75 2 (.slice cb c.mail.length cd) c.mail.length (c.mail.flatMap encM)) ∧ ((w4.alloc (.cells #[.int .i64 s.step, .int .i64 s.phase, .bool s.fresh, .slice ua s.vals.length uc, .slice ya s.mail.length yc] 34)).ownsRow W0.heap.size 73 2 (.slice ua s.vals.length uc) s.vals.length (s.vals.flatMap encM) ∧ (w4.alloc (.cells #[.int .i64 s.step, .int .i64 s.phase, .bool s.fresh, .slice ua s.vals.length uc, .slice ya s.mail.length yc] 34)).ownsRow W0.heap.size 75 2 (.slice ya s.mail.length yc) s.mail.length (s.mail.flatMap encM))) := by
        have h := HB.out.trans (hb4.mono hsr)
        have bA := hb4.alloc hb4.size (.cells #[.int .i64 s.step, .int .i64 s.phase, .bool s.fresh, .slice ua s.vals.length uc, .slice ya s.mail.length yc] 34)
        exact ⟨h.alloc h.size _, BX.new _ _ _, HQ.out.below bA HQ.out.lt, ⟨own_below HO.out.1 bA (Nat.le_refl _), own_below HO.out.2 bA (Nat.le_refl _)⟩, own_below (own_lower hu1 hsr) (below_alloc _ _) (Nat.le_refl _), own_below (own_lower hu2 hsr) (below_alloc _ _) (Nat.le_refl _)⟩
      clear hu1 hu2 hb4 q0 HQ HO HB CL
      go_upto_region 6 with fail
      generalize w4.alloc (.cells #[.int .i64 s.step, .int .i64 s.phase, .bool s.fresh, .slice ua s.vals.length uc, .slice ya s.mail.length yc] 34) = w5 at *
      generalize w4.heap.size = b5 at *
      obtain ⟨a5, x5, y5, o5, p5⟩ := E4.out
      have A5 : Hid (Below W0.heap.size W0 w5) := a5
      have Y5 : Hid (BX 34 w5 W0.heap.size #[.int .i64 c.step, .int .i64 c.phase, .bool c.fresh, .slice ca c.vals.length cc, .slice cb c.mail.length cd]) := y5
      have O5 : Hid (w5.ownsRow W0.heap.size 73 2 (.slice ca c.vals.length cc) c.vals.length (c.vals.flatMap encM) ∧ w5.ownsRow W0.heap.size 75 2 (.slice cb c.mail.length cd) c.mail.length (c.mail.flatMap encM)) := o5
      have P5 : Hid (w5.ownsRow W0.heap.size 73 2 (.slice ua s.vals.length uc) s.vals.length (s.vals.flatMap encM) ∧ w5.ownsRow W0.heap.size 75 2 (.slice ya s.mail.length yc) s.mail.length (s.mail.flatMap encM)) := p5
      obtain ⟨e0, e1, e2, e3, e4⟩ := x5.all5
      obtain ⟨g0, g1, g2, g3, g4⟩ := y5.all5
      clear a5 x5 y5 o5 p5 E4
      by_cases h2 : t2 = 0 ∧ s.step ≤ n
      case neg =>
        have JJ : Hid (curN fs n (k + 1) = (c, t)) := J1.out h2
        clear J1 J2 J3
        by_cases h3 : t2 = 0
        · have h4 : ¬ s.step ≤ n := fun h => h2 ⟨h3, h⟩
          have tn : (t2 != 0) = false := by simp [h3]
          have h5 : n < s.step := by omega
          clear h2 h3 h4
          go_wp2_with fail
          go_roundw
          case rel => exact ⟨k + 1, c, t, _, _, by omega, by go_num, rfl, JJ.out, Y5.out, O5.out.1, O5.out.2, A5.out⟩
          case measure => simp [intOf]; omega
        · have tn : (t2 != 0) = true := by simp [h3]
          clear h2 h3
          go_wp2_with fail
          go_roundw
          case rel => exact ⟨k + 1, c, t, _, _, by omega, by go_num, rfl, JJ.out, Y5.out, O5.out.1, O5.out.2, A5.out⟩
          case measure => simp [intOf]; omega
      have h4 : ¬ n < s.step := by omega
      have tn : (t2 != 0) = false := by simp [h2.1]
      have TAKE : Hid ((t ≠ 0 ∨ c.step < s.step) → curN fs n (k + 1) = (s, 0)) := J2.out h2
      clear J1 J2 h2
      have F5 : Hid (BX 34 (putS w5 W0.heap.size (.int .i64 s.step) (.int .i64 s.phase) (.bool s.fresh) (.slice ua s.vals.length uc) (.slice ya s.mail.length yc)) W0.heap.size #[.int .i64 s.step, .int .i64 s.phase, .bool s.fresh, .slice ua s.vals.length uc, .slice ya s.mail.length yc] ∧ ((putS w5 W0.heap.size (.int .i64 s.step) (.int .i64 s.phase) (.bool s.fresh) (.slice ua s.vals.length uc) (.slice ya s.mail.length yc)).ownsRow W0.heap.size 73 2 (.slice ua s.vals.length uc) s.vals.length (s.vals.flatMap encM) ∧ (putS w5 W0.heap.size (.int .i64 s.step) (.int .i64 s.phase) (.bool s.fresh) (.slice ua s.vals.length uc) (.slice ya s.mail.length yc)).ownsRow W0.heap.size 75 2 (.slice ya s.mail.length yc) s.mail.length (s.mail.flatMap encM)) ∧ Below W0.heap.size W0 (putS w5 W0.heap.size (.int .i64 s.step) (.int .i64 s.phase) (.bool s.fresh) (.slice ua s.vals.length uc) (.slice ya s.mail.length yc))) := ⟨BX.putS Y5.out, ⟨own_off P5.out.1 Y5.out (by decide) (kept_putS w5 W0.heap.size _ _ _ _ _), own_off P5.out.2 Y5.out (by decide) (kept_putS w5 W0.heap.size _ _ _ _ _)⟩, below_putS A5.out (Nat.le_refl _) _ _ _ _ _⟩
      obtain ⟨z0, z1, z2, z3, z4⟩ := Y5.out.all5f
      by_cases h5 : t = 0
      case neg =>
        have JJ : Hid (curN fs n (k + 1) = (s, 0)) := TAKE.out (.inl h5)
        have tm : (t != 0) = true := by simp [h5]
        clear TAKE J3 h5
        unfold putS at F5
        go_wp2_with fail
        go_roundw
        case rel => exact ⟨k + 1, s, 0, _, _, by omega, by go_num, rfl, JJ.out, F5.out.1, F5.out.2.1.1, F5.out.2.1.2, F5.out.2.2⟩
        case measure => simp [intOf]; omega
      have tm : (t != 0) = false := by simp [h5]
      by_cases h6 : c.step < s.step
      · have JJ : Hid (curN fs n (k + 1) = (s, 0)) := TAKE.out (.inr h6)
        clear TAKE J3 h5
        unfold putS at F5
        go_wp2_with fail
        go_roundw
        case rel => exact ⟨k + 1, s, 0, _, _, by omega, by go_num, rfl, JJ.out, F5.out.1, F5.out.2.1.1, F5.out.2.1.2, F5.out.2.2⟩
        case measure => simp [intOf]; omega
      have JJ : Hid (curN fs n (k + 1) = (c, t)) := J3.out (fun h => by rcases h with h | h; exact h h5; exact h6 h)
      have H5 : Hid (t = 0) := h5
      clear TAKE J3 h5 F5
      go_wp2_with fail
      go_roundw
      case rel => exact ⟨k + 1, c, t, _, _, by omega, by go_num, rfl, JJ.out, Y5.out, O5.out.1, O5.out.2, A5.out⟩
      case measure => simp [intOf]; omega
    · have HE : Hid (∀ v1 v2 w', w'.ownsRow w.heap.size 73 2 v1 c.vals.length (c.vals.flatMap encM) → w'.ownsRow w.heap.size 75 2 v2 c.mail.length (c.mail.flatMap encM) → Below w.heap.size w w' → P (.returned (.tuple #[.agg #[.int .i64 c.step, .int .i64 c.phase, .bool c.fresh, v1, v2], .int .i64 t])) w') := HE2.out c t (by have e : k = 2 := (by omega); have := HC.out; rwa [e] at this)
      obtain ⟨g0, g1, g2, g3, g4⟩ := HQ.out.all5
      obtain ⟨m0, m1, m2, m3, m4⟩ := (HK.out _ HB.out).2.1.all5
      obtain ⟨f0, f1, f2, f3, f4⟩ := (HK.out _ HB.out).2.1.all5f
      have HX : Hid (P (.returned (.tuple #[.agg #[.int .i64 c.step, .int .i64 c.phase, .bool c.fresh, .slice ca c.vals.length cc, .slice cb c.mail.length cd], .int .i64 t])) (putS wr (w.heap.size + 1) (.int .i64 c.step) (.int .i64 c.phase) (.bool c.fresh) (.slice ca c.vals.length cc) (.slice cb c.mail.length cd))) := HE.out _ _ _ (own_lower (own_off HO.out.1 (HK.out _ HB.out).2.1 (by decide) (kept_putS wr (w.heap.size + 1) _ _ _ _ _)) (by omega)) (own_lower (own_off HO.out.2 (HK.out _ HB.out).2.1 (by decide) (kept_putS wr (w.heap.size + 1) _ _ _ _ _)) (by omega)) (below_putS (HK.out _ HB.out).2.2.1 (Nat.le_succ _) _ _ _ _ _)
      have RX : Hid (BX 34 (putS wr (w.heap.size + 1) (.int .i64 c.step) (.int .i64 c.phase) (.bool c.fresh) (.slice ca c.vals.length cc) (.slice cb c.mail.length cd)) (w.heap.size + 1) #[.int .i64 c.step, .int .i64 c.phase, .bool c.fresh, .slice ca c.vals.length cc, .slice cb c.mail.length cd]) := BX.putS (HK.out _ HB.out).2.1
      go_wp2_with fail
      obtain ⟨r0, r1, r2, r3, r4⟩ := RX.out.all5
      unfold putS at r0 r1 r2 r3 r4
      exact bodyPost_ret (v := .tuple #[.agg #[.int .i64 c.step, .int .i64 c.phase, .bool c.fresh, .slice ca c.vals.length cc, .slice cb c.mail.length cd], .int .i64 t]) (by simp [results, Tryd.results13, go_sem, r0, r1, r2, r3, r4]) rfl HX.out
end Go.Proofs.YthakibcfmbkpkaaDoor

namespace Go.Proofs.YthakibcfmbkpkaaDoor
set_option maxRecDepth 100000
open Go.RowKit
section
variable {P : Program} {md : Region.Mode} {ops : Array Oper} {Q : Exit → Act → World → Prop}

/-- Just two may come up, and each is carried out. -/
theorem twoHE {S : World → Prop} {i j : Nat} {oi oj : Oper} {fuel : Nat} {listed : Array Bool} {a : Act} {w : World} (hi : ops[i]? = some oi) (hj : ops[j]? = some oj) (hr : Region.ready md ops listed = [i, j]) (hg : oi.guard = none) (hg2 : oj.guard = none)
    (h : oi.wp P a w (fun a' w' => S w' ∧ wpAnyH P md ops Q S fuel (listed.setIfInBounds i true) a' w') Q)
    (h2 : oj.wp P a w (fun a' w' => S w' ∧ wpAnyH P md ops Q S fuel (listed.setIfInBounds j true) a' w') Q) : wpAnyH P md ops Q S (fuel + 1) listed a w := by
  refine wpAnyH_all hr (by simp) fun k hk => ?_
  have : k = i ∨ k = j := by simpa using hk
  rcases this with rfl | rfl
  · unfold wpOp
    simp only [hi]
    rw [if_pos (by simp [Region.wanted, hg])]
    exact .inl h
  · unfold wpOp
    simp only [hj]
    rw [if_pos (by simp [Region.wanted, hg2])]
    exact .inl h2
/-- A call, its outcome taken up. -/
theorem call_then {oi : Oper} {a : Act} {w : World} {K : Act → World → Prop} {d : Tmp} {f : FuncId} {xs : Array Operand} {ats : Array TypeId} (hd : oi.dst = some d) (hop : oi.op = Op.call { callee := Callee.value (.func f), args := xs, argTypes := ats })
    (he : ∀ args w, (callFunc f args).run P w = .ok (.enter f args) w) {vs : Array Value} (hxs : xs.map a.eval = vs) {R : World → Prop} {v : Value} (hc : Calls P f vs w fun e w' => e = .returned v ∧ R w') (hK : ∀ w', R w' → K (a.put (some d) v) w') : oi.wp P a w K Q := by
  unfold Oper.wp
  have hr : (execOp a.eval oi).run P w = .ok (.enter f vs) w := by
    have h2 : xs.map a.eval = vs := hxs
    simp [execOp, hop, resolve, invoke, Act.eval, Deferred.ofValue]
    have h3 := he (xs.map a.eval) w
    rw [h2] at h3
    rw [← h2] at h3 ⊢
    exact h3
  rw [hr, Oper.upon_enter]
  exact hc.mono (by rintro e w' ⟨rfl, h⟩; rw [hd]; exact hK _ h)
end
end Go.Proofs.YthakibcfmbkpkaaDoor

namespace Go.Proofs.YthakibcfmbkpkaaDoor
set_option maxRecDepth 100000
open Go.ChangeShapes Go.WideShapes Go.ChangeAt Go.RowKit

theorem bytes_app (a b : List UInt8) : (⟨a.toArray⟩ : ByteArray) ++ ⟨b.toArray⟩ = ⟨(a ++ b).toArray⟩ := by
  apply ByteArray.ext
  simp
theorem dec_len (n : Nat) (h : n ≤ 9223372036854775807) : (Lib.decDigits n).length ≤ 21 := by
  have := Lib.itoa_length_le n (by omega) (by omega)
  rwa [Lib.itoa_nonneg] at this

/-- string([]byte{c}) -/
theorem conv_one (d : Nat) (x : Int) (hx : x = d) (hd : d < 256) (W : World) (g : Nat) (h : W.cell? ⟨g, 0, none⟩ = some (.int .u8 x)) :
    (convert 44 9 (.slice (some ⟨g, 0, none⟩) 1 1)).run Tryd.prog W = .ok (.string ⟨#[UInt8.ofNat d]⟩) W := by
  have := run_convert_bytes_back (P := Tryd.prog) W 44 9 5 ⟨g, 0, none⟩ 1 [UInt8.ofNat d] Tryd.underlying44 Tryd.underlying5 Tryd.underlying9 (by
    intro j hj
    have : j = 0 := by simpa using hj
    subst this
    rw [addr_add]
    simpa [Nat.mod_eq_of_lt hd, ← hx] using h)
  simpa using this

set_option maxHeartbeats 2000000 in
theorem dec_small (n : Nat) (hn : n < 10) (w : World) :
    Calls Tryd.prog 39 #[.int .i64 (n : Int)] w fun e w' => e = .returned (.string ⟨(Lib.decDigits n).toArray⟩) ∧ Below w.heap.size w w' := by
  rw [Lib.decDigits_one hn]
  have h1 : (n : Int) < 10 := by omega
  have cv := conv_one (48 + n) (48 + (n : Int)) (by omega) (by omega) (w.alloc (.cells #[.int .u8 (48 + (n : Int))] 5)) w.heap.size (cell_new0 _ _ _)
  generalize UInt8.ofNat (48 + n) = c at cv ⊢
  go_enter Tryd.func39, Tryd.ntmps39
  go_wp2
  go_ret
  exact ⟨rfl, below_alloc _ _⟩

set_option maxHeartbeats 4000000 in
theorem dec_step (n : Nat) (hn : ¬ n < 10) (hm : n ≤ 9223372036854775807) (w : World)
    (ih : ∀ W : World, Calls Tryd.prog 39 #[.int .i64 ((n / 10 : Nat) : Int)] W fun e w' => e = .returned (.string ⟨(Lib.decDigits (n / 10)).toArray⟩) ∧ Below W.heap.size W w') :
    Calls Tryd.prog 39 #[.int .i64 (n : Int)] w fun e w' => e = .returned (.string ⟨(Lib.decDigits n).toArray⟩) ∧ Below w.heap.size w w' := by
  have HE : Hid (Lib.decDigits n = Lib.decDigits (n / 10) ++ [UInt8.ofNat (48 + n % 10)]) := by
    show _ = _
    rw [Lib.decDigits, dif_neg hn]
  have h1 : ¬ (n : Int) < 10 := by omega
  obtain ⟨q, hq⟩ : ∃ q : Int, q = ((n / 10 : Nat) : Int) := ⟨_, rfl⟩
  obtain ⟨x, hx⟩ : ∃ x : Int, x = ((48 + n % 10 : Nat) : Int) := ⟨_, rfl⟩
  have IH : Hid (∀ W : World, Calls Tryd.prog 39 #[.int .i64 q] W fun e w' => e = .returned (.string ⟨(Lib.decDigits (n / 10)).toArray⟩) ∧ Below W.heap.size W w') := by
    show ∀ W : World, _
    rw [hq]; exact ih
  have CV : Hid (∀ (W : World) (g : Nat), W.cell? ⟨g, 0, none⟩ = some (.int .u8 x) → (convert 44 9 (.slice (some ⟨g, 0, none⟩) 1 1)).run Tryd.prog W = .ok (.string ⟨#[UInt8.ofNat (48 + n % 10)]⟩) W) :=
    fun W g h => conv_one (48 + n % 10) x hx (by omega) W g h
  have e1 : (n : Int).tdiv 10 = q := by rw [Int.tdiv_eq_ediv_of_nonneg (by omega)]; omega
  have e2 : 48 + (n : Int).tmod 10 = x := by rw [Int.tmod_eq_emod_of_nonneg (by omega)]; omega
  have e3 : IntKind.i64.wrap ((n : Int) / 10) = (n : Int) / 10 := wrap_id64 (by omega) (by omega)
  have e4 : IntKind.i64.wrap (48 + (n : Int) % 10) = 48 + (n : Int) % 10 := wrap_id64 (by omega) (by omega)
  have e5 : IntKind.u8.wrap (48 + (n : Int) % 10) = 48 + (n : Int) % 10 := by
    show (48 + (n : Int) % 10) % 256 = _
    omega
  have HLD : Hid ((Lib.decDigits (n / 10)).length ≤ 21) := dec_len _ (by omega)
  generalize Lib.decDigits (n / 10) = D at HE IH HLD
  generalize UInt8.ofNat (48 + n % 10) = c at HE CV
  generalize Lib.decDigits n = R at HE ⊢
  clear ih
  go_enter Tryd.func39, Tryd.ntmps39
  go_wp2_with fail
  have edc : ∀ args w, (callFunc 39 args).run Tryd.prog w = .ok (.enter 39 args) w := enters_of Tryd.func39 (by kernel_rfl) rfl
  refine wp_region_held (S := fun _ => True) (by kernel_rfl) ?_
  simp only [List.size_toArray, List.length_cons, List.length_nil, Nat.reduceAdd]
  refine takeH (i := 0) (v := .int .i64 (n : Int)) (d := 10) rfl rfl (by kernel_rfl) (by kernel_rfl) (by kernel_rfl) (fun _ _ _ h => h) (by rfl) (fun V _ => by go_simp) trivial ?_
  simp only [Act.put, List.setIfInBounds_toArray, List.set_cons_zero, List.set_cons_succ]
  refine takeH (i := 1) (v := .int .i64 q) (d := 11) rfl rfl (by kernel_rfl) (by kernel_rfl) (by kernel_rfl) (fun _ _ _ h => h) (by rfl) (fun V _ => by go_simp) trivial ?_
  simp only [Act.put, List.setIfInBounds_toArray, List.set_cons_zero, List.set_cons_succ]
  refine takeH (i := 3) (v := .int .i64 (n : Int)) (d := 13) rfl rfl (by kernel_rfl) (by kernel_rfl) (by kernel_rfl) (fun _ _ _ h => h) (by rfl) (fun V _ => by go_simp) trivial ?_
  simp only [Act.put, List.setIfInBounds_toArray, List.set_cons_zero, List.set_cons_succ]
  refine takeH (i := 4) (v := .int .i64 ((n : Int).tmod 10)) (d := 14) rfl rfl (by kernel_rfl) (by kernel_rfl) (by kernel_rfl) (fun _ _ _ h => h) (by rfl) (fun V _ => by go_simp) trivial ?_
  simp only [Act.put, List.setIfInBounds_toArray, List.set_cons_zero, List.set_cons_succ]
  refine takeH (i := 5) (v := .int .i64 x) (d := 15) rfl rfl (by kernel_rfl) (by kernel_rfl) (by kernel_rfl) (fun _ _ _ h => h) (by rfl) (fun V _ => by go_simp) trivial ?_
  simp only [Act.put, List.setIfInBounds_toArray, List.set_cons_zero, List.set_cons_succ]
  refine takeH (i := 6) (v := .int .u8 x) (d := 16) rfl rfl (by kernel_rfl) (by kernel_rfl) (by kernel_rfl) (fun _ _ _ h => h) (by rfl) (fun V _ => by go_simp) trivial ?_
  simp only [Act.put, List.setIfInBounds_toArray, List.set_cons_zero, List.set_cons_succ]
  have hap : (⟨D.toArray⟩ : ByteArray) ++ ⟨#[c]⟩ = ⟨R.toArray⟩ := by rw [HE.out]; exact bytes_app D [c]
  have hld : ¬ 9223372036854775807 < D.length + 1 := by have := HLD.out; omega
  clear e1 e2 e3 e4 e5 hx hq
  refine twoHE (i := 2) (j := 7) rfl rfl (by kernel_rfl) rfl rfl ?_ ?_
  · refine call_then (d := 12) (f := 39) (xs := #[.tmp 11]) (ats := #[3]) rfl rfl edc (vs := #[.int .i64 q]) (by simp [Act.eval]) (IH.out _) fun w1 hb1 => ⟨trivial, ?_⟩
    have HB1 : Hid (Below w.heap.size w w1) := below_undrew hb1
    clear hb1
    simp only [Act.put, List.setIfInBounds_toArray, List.set_cons_zero, List.set_cons_succ]
    refine oneH (i := 7) rfl (by kernel_rfl) rfl (op_run (d := 17) (v' := .slice (some ⟨w1.heap.size, 0, none⟩) 1 1) (w' := w1.alloc (.cells #[.int .u8 x] 5)) rfl (by go_simp) ⟨trivial, ?_⟩)
    simp only [Act.put, List.setIfInBounds_toArray, List.set_cons_zero, List.set_cons_succ]
    have cv := CV.out (w1.alloc (.cells #[.int .u8 x] 5)) w1.heap.size (cell_new0 _ _ _)
    refine oneH (i := 8) rfl (by kernel_rfl) rfl (op_run (d := 18) (v' := .string ⟨#[c]⟩) (w' := w1.alloc (.cells #[.int .u8 x] 5)) rfl (by go_simp) ⟨trivial, ?_⟩)
    simp only [Act.put, List.setIfInBounds_toArray, List.set_cons_zero, List.set_cons_succ]
    refine oneH (i := 9) rfl (by kernel_rfl) rfl (op_run (d := 19) (v' := .string ⟨R.toArray⟩) (w' := w1.alloc (.cells #[.int .u8 x] 5)) rfl (by go_simp) ⟨trivial, ?_⟩)
    simp only [Act.put, List.setIfInBounds_toArray, List.set_cons_zero, List.set_cons_succ]
    refine oneH (i := 10) rfl (by kernel_rfl) rfl (op_run (d := 2) (v' := .string ⟨R.toArray⟩) (w' := w1.alloc (.cells #[.int .u8 x] 5)) rfl (by go_simp) ⟨trivial, ?_⟩)
    simp only [Act.put, List.setIfInBounds_toArray, List.set_cons_zero, List.set_cons_succ]
    refine wpAnyH_done (by kernel_rfl) ?_ _
    have HB9 : Hid (Below w.heap.size w (w1.alloc (.cells #[.int .u8 x] 5))) := HB1.out.alloc HB1.out.size _
    clear cv
    go_wp2
    go_ret
    exact ⟨rfl, HB9.out⟩
  · refine op_run (d := 17) (v' := .slice (some ⟨w.heap.size, 0, none⟩) 1 1) (w' := (w.alloc (.cells #[.int .u8 x] 5)).drew) rfl (by go_simp) ⟨trivial, ?_⟩
    simp only [Act.put, List.setIfInBounds_toArray, List.set_cons_zero, List.set_cons_succ]
    refine twoHE (i := 2) (j := 8) rfl rfl (by kernel_rfl) rfl rfl ?_ ?_
    · refine call_then (d := 12) (f := 39) (xs := #[.tmp 11]) (ats := #[3]) rfl rfl edc (vs := #[.int .i64 q]) (by simp [Act.eval]) (IH.out _) fun w1 hb1 => ⟨trivial, ?_⟩
      have HB1 : Hid (Below (w.heap.size + 1) (w.alloc (.cells #[.int .u8 x] 5)) w1) := by
        have := below_undrew hb1
        show Below _ _ _
        simpa using this
      clear hb1
      simp only [Act.put, List.setIfInBounds_toArray, List.set_cons_zero, List.set_cons_succ]
      have cv := CV.out w1 w.heap.size (box_cell HB1.out)
      refine oneH (i := 8) rfl (by kernel_rfl) rfl (op_run (d := 18) (v' := .string ⟨#[c]⟩) (w' := w1) rfl (by go_simp) ⟨trivial, ?_⟩)
      simp only [Act.put, List.setIfInBounds_toArray, List.set_cons_zero, List.set_cons_succ]
      refine oneH (i := 9) rfl (by kernel_rfl) rfl (op_run (d := 19) (v' := .string ⟨R.toArray⟩) (w' := w1) rfl (by go_simp) ⟨trivial, ?_⟩)
      simp only [Act.put, List.setIfInBounds_toArray, List.set_cons_zero, List.set_cons_succ]
      refine oneH (i := 10) rfl (by kernel_rfl) rfl (op_run (d := 2) (v' := .string ⟨R.toArray⟩) (w' := w1) rfl (by go_simp) ⟨trivial, ?_⟩)
      simp only [Act.put, List.setIfInBounds_toArray, List.set_cons_zero, List.set_cons_succ]
      refine wpAnyH_done (by kernel_rfl) ?_ _
      have HB9 : Hid (Below w.heap.size w (w1)) := box_below HB1.out
      clear cv
      go_wp2
      go_ret
      exact ⟨rfl, HB9.out⟩
    · have cv := CV.out (w.alloc (.cells #[.int .u8 x] 5)).drew w.heap.size (cell_new0 _ _ _)
      refine op_run (d := 18) (v' := .string ⟨#[c]⟩) (w' := (w.alloc (.cells #[.int .u8 x] 5)).drew) rfl (by go_simp) ⟨trivial, ?_⟩
      simp only [Act.put, List.setIfInBounds_toArray, List.set_cons_zero, List.set_cons_succ]
      refine oneH (i := 2) rfl (by kernel_rfl) rfl ?_
      refine call_then (d := 12) (f := 39) (xs := #[.tmp 11]) (ats := #[3]) rfl rfl edc (vs := #[.int .i64 q]) (by simp [Act.eval]) (IH.out _) fun w1 hb1 => ⟨trivial, ?_⟩
      have HB1 : Hid (Below (w.heap.size + 1) (w.alloc (.cells #[.int .u8 x] 5)) w1) := by
        have := below_undrew hb1
        show Below _ _ _
        simpa using this
      clear hb1
      simp only [Act.put, List.setIfInBounds_toArray, List.set_cons_zero, List.set_cons_succ]
      refine oneH (i := 9) rfl (by kernel_rfl) rfl (op_run (d := 19) (v' := .string ⟨R.toArray⟩) (w' := w1) rfl (by go_simp) ⟨trivial, ?_⟩)
      simp only [Act.put, List.setIfInBounds_toArray, List.set_cons_zero, List.set_cons_succ]
      refine oneH (i := 10) rfl (by kernel_rfl) rfl (op_run (d := 2) (v' := .string ⟨R.toArray⟩) (w' := w1) rfl (by go_simp) ⟨trivial, ?_⟩)
      simp only [Act.put, List.setIfInBounds_toArray, List.set_cons_zero, List.set_cons_succ]
      refine wpAnyH_done (by kernel_rfl) ?_ _
      have HB9 : Hid (Below w.heap.size w (w1)) := box_below HB1.out
      clear cv
      go_wp2
      go_ret
      exact ⟨rfl, HB9.out⟩

theorem dec_any : ∀ (n : Nat) (w : World), n ≤ 9223372036854775807 → Calls Tryd.prog 39 #[.int .i64 (n : Int)] w fun e w' => e = .returned (.string ⟨(Lib.decDigits n).toArray⟩) ∧ Below w.heap.size w w' := by
  intro n
  induction n using Nat.strongRecOn with
  | _ n ih =>
    intro w hm
    by_cases h : n < 10
    · exact dec_small n h w
    · exact dec_step n h hm w fun W => ih (n / 10) (by omega) W (by omega)
end Go.Proofs.YthakibcfmbkpkaaDoor

namespace Go.Proofs.YthakibcfmbkpkaaDoor
set_option maxRecDepth 100000
open Go.ChangeShapes Go.WideShapes Go.ChangeAt Go.RowKit

theorem dec0 (w : World) : Calls Tryd.prog 39 #[.int .i64 0] w fun e w' => e = .returned (.string ⟨#[48]⟩) ∧ Below w.heap.size w w' :=
  (dec_any 0 w (by omega)).mono fun e w' h => ⟨by rw [h.1, Lib.decDigits_one (by omega)]; rfl, h.2⟩
set_option maxHeartbeats 400000 in
theorem refSlot0 (w : World) : Calls Tryd.prog 22 #[.int .i64 0] w fun e w' => e = .returned (.string slot0) ∧ Below w.heap.size w w' := by
  go_enter Tryd.func22, Tryd.ntmps22
  go_wp2_with fail
  refine (dec0 _).mono ?_
  rintro e w1 ⟨rfl, hb⟩
  have HB : Hid (Below w.heap.size w w1) := hb
  clear hb
  go_wp2_with fail
  go_ret
  exact ⟨by rfl, HB.out⟩

theorem dec1 (w : World) : Calls Tryd.prog 39 #[.int .i64 1] w fun e w' => e = .returned (.string ⟨#[49]⟩) ∧ Below w.heap.size w w' :=
  (dec_any 1 w (by omega)).mono fun e w' h => ⟨by rw [h.1, Lib.decDigits_one (by omega)]; rfl, h.2⟩
set_option maxHeartbeats 400000 in
theorem refSlot1 (w : World) : Calls Tryd.prog 22 #[.int .i64 1] w fun e w' => e = .returned (.string slot1) ∧ Below w.heap.size w w' := by
  go_enter Tryd.func22, Tryd.ntmps22
  go_wp2_with fail
  refine (dec1 _).mono ?_
  rintro e w1 ⟨rfl, hb⟩
  have HB : Hid (Below w.heap.size w w1) := hb
  clear hb
  go_wp2_with fail
  go_ret
  exact ⟨by rfl, HB.out⟩
theorem refSlot_yes (n : Int) (h : 0 ≤ n ∧ n ≤ 1) (w : World) : Calls Tryd.prog 22 #[.int .i64 n] w fun e w' => e = .returned (.string (slotB n)) ∧ Below w.heap.size w w' := by
  by_cases h0 : n = 0
  · subst h0
    exact refSlot0 w
  · have h1 : n = 1 := by omega
    subst h1
    exact refSlot1 w
end Go.Proofs.YthakibcfmbkpkaaDoor

namespace Go.Proofs.YthakibcfmbkpkaaDoor
set_option maxRecDepth 100000

/-- What a list of numbers says, with m values and j pieces of mail. -/
def docS (l : List Int) (m j : Nat) : SvS :=
  ⟨l.getD 0 0, l.getD 1 0, l.getD 2 0 == 1, (List.range m).map fun i => (IntKind.i64.wrap (l.getD (4 + 2 * i) 0 - 1), IntKind.i64.wrap (l.getD (5 + 2 * i) 0 - 1)), (List.range j).map fun i => (l.getD (5 + 2 * m + 2 * i) 0, l.getD (6 + 2 * m + 2 * i) 0)⟩
theorem pairN_at (d : Int) : ∀ (l : List Ml) (i : Nat) (x : Ml), l[i]? = some x → (pairN d l)[2 * i]? = some (x.1 + d) ∧ (pairN d l)[2 * i + 1]? = some (x.2 + d)
  | [], i, x, h => by simp at h
  | y :: l, 0, x, h => by
    simp only [List.getElem?_cons_zero, Option.some.injEq] at h
    subst h
    exact ⟨rfl, rfl⟩
  | y :: l, i + 1, x, h => by
    have ih := pairN_at d l i x (by simpa using h)
    have e : pairN d (y :: l) = (y.1 + d) :: (y.2 + d) :: pairN d l := rfl
    rw [e, show 2 * (i + 1) = (2 * i + 1) + 1 by omega, show (2 * i + 1) + 1 + 1 = (2 * i + 1 + 1) + 1 by omega]
    simp only [List.getElem?_cons_succ]
    exact ih
theorem numsS_vals (s : SvS) {i : Nat} {x : Ml} (h : s.vals[i]? = some x) : (numsS s).getD (4 + 2 * i) 0 = x.1 + 1 ∧ (numsS s).getD (5 + 2 * i) 0 = x.2 + 1 := by
  have hi : i < s.vals.length := (List.getElem?_eq_some_iff.1 h).1
  obtain ⟨h1, h2⟩ := pairN_at 1 s.vals i x h
  have hl := pairN_len 1 s.vals
  have e : ∀ k, k < (pairN 1 s.vals).length → (numsS s)[4 + k]? = (pairN 1 s.vals)[k]? := fun k hk => by
    unfold numsS
    rw [List.getElem?_append_right (by simp), List.getElem?_append_left (by simp only [List.length_cons, List.length_nil]; omega)]
    congr 1
    simp only [List.length_cons, List.length_nil]
    omega
  rw [List.getD_eq_getElem?_getD, List.getD_eq_getElem?_getD, e _ (by omega), show 5 + 2 * i = 4 + (2 * i + 1) by omega, e _ (by omega), h1, h2]
  exact ⟨rfl, rfl⟩
theorem numsS_mail (s : SvS) {i : Nat} {x : Ml} (h : s.mail[i]? = some x) : (numsS s).getD (5 + 2 * s.vals.length + 2 * i) 0 = x.1 ∧ (numsS s).getD (6 + 2 * s.vals.length + 2 * i) 0 = x.2 := by
  have hi : i < s.mail.length := (List.getElem?_eq_some_iff.1 h).1
  obtain ⟨h1, h2⟩ := pairN_at 0 s.mail i x h
  have hl := pairN_len 1 s.vals
  have e : ∀ k, (numsS s)[5 + 2 * s.vals.length + k]? = (pairN 0 s.mail)[k]? := fun k => by
    unfold numsS
    rw [List.getElem?_append_right (by simp; omega), List.getElem?_append_right (by simp only [List.length_cons, List.length_nil]; omega), List.getElem?_append_right (by simp only [List.length_cons, List.length_nil]; omega)]
    congr 1
    simp only [List.length_cons, List.length_nil]
    omega
  rw [List.getD_eq_getElem?_getD, List.getD_eq_getElem?_getD, e, show 6 + 2 * s.vals.length + 2 * i = 5 + 2 * s.vals.length + (2 * i + 1) by omega, e, h1, h2]
  exact ⟨Int.add_zero _, Int.add_zero _⟩
theorem range_map_of {α : Type} (f : Nat → α) (l : List α) (h : ∀ i x, l[i]? = some x → f i = x) : (List.range l.length).map f = l := by
  apply List.ext_getElem?
  intro i
  rw [List.getElem?_map]
  rcases Nat.lt_or_ge i l.length with h' | h'
  · rw [List.getElem?_range h', List.getElem?_eq_getElem h', Option.map_some, h i _ (List.getElem?_eq_getElem h')]
  · rw [List.getElem?_eq_none (by simpa using h'), List.getElem?_eq_none h']; rfl
/-- Numbers that were written say what they were made of. -/
theorem docS_nums {s : SvS} (h : svMay s = true) : docS (numsS s) s.vals.length s.mail.length = s := by
  obtain ⟨⟨h1, h2, h3⟩, h4, h5, h6, _, h7⟩ := svMay_iff.1 h
  unfold docS
  rw [range_map_of _ s.vals fun i x hx => ?_, range_map_of _ s.mail fun i x hx => ?_]
  · have f1 : ((if s.fresh then (1 : Int) else 0) == 1) = s.fresh := by cases s.fresh <;> rfl
    show SvS.mk s.step s.phase ((if s.fresh then (1 : Int) else 0) == 1) s.vals s.mail = s
    rw [f1]
  · obtain ⟨e1, e2⟩ := numsS_mail s hx
    rw [e1, e2]
  · obtain ⟨e1, e2⟩ := numsS_vals s hx
    have := valS_iff.1 (valA_iff.1 h5 x (List.mem_of_getElem? hx))
    rw [e1, e2]
    have w1 : IntKind.i64.wrap (x.1 + 1 - 1) = x.1 := by rw [IntKind.wrap_i64]; omega
    have w2 : IntKind.i64.wrap (x.2 + 1 - 1) = x.2 := by rw [IntKind.wrap_i64]; omega
    rw [w1, w2]
theorem numsS_count (s : SvS) : (numsS s).getD 3 0 = (s.vals.length : Int) := rfl
/-- While the numbers are read: of a payload that is a form, those so far, and the rest. -/
def rdQ (ink l : List Int) (i : Nat) : Prop := ∀ s, svMay s = true → bytN (numsS s) = ink → l = (numsS s).take l.length ∧ l.length ≤ (numsS s).length ∧ ink.drop i = bytN ((numsS s).drop l.length)
/-- The payload is a form of nothing. -/
def noQ (ink : List Int) : Prop := ∀ s, svMay s = true → bytN (numsS s) ≠ ink
theorem rdQ_nil (ink : List Int) : rdQ ink [] 0 := fun s _ h => ⟨rfl, by simp, by rw [← h]; rfl⟩
theorem rdQ_head {ink l : List Int} {i : Nat} (h : rdQ ink l i) (hi : i < ink.length) {s : SvS} (hs : svMay s = true) (he : bytN (numsS s) = ink) :
    ∃ y, (numsS s)[l.length]? = some y ∧ (0 ≤ y ∧ y ≤ 4398046511105) ∧ ink.drop i = put y ++ bytN ((numsS s).drop (l.length + 1)) := by
  obtain ⟨_, h2, h3⟩ := h s hs he
  have hn : l.length < (numsS s).length := by
    rcases Nat.lt_or_ge l.length (numsS s).length with h' | h'
    · exact h'
    · rw [List.drop_eq_nil_of_le h'] at h3
      have : (ink.drop i).length = 0 := by rw [h3]; rfl
      rw [List.length_drop] at this
      omega
  refine ⟨(numsS s)[l.length], List.getElem?_eq_getElem hn, numsS_in hs _ (List.getElem_mem hn), ?_⟩
  rw [h3, List.drop_eq_getElem_cons hn]
  rfl
theorem rdQ_step {ink l : List Int} {i i2 : Nat} {x : Int} (h : rdQ ink l i) (hi : i < ink.length) (hn : numF 1152921504606846976 (ink.drop i) = some (x, ink.drop i2)) : rdQ ink (l ++ [x]) i2 := fun s hs he => by
  obtain ⟨h1, h2, _⟩ := h s hs he
  obtain ⟨y, hy, hb, e⟩ := rdQ_head h hi hs he
  rw [e, numF_put _ hb.1 (by omega) (by omega)] at hn
  injection hn with hn
  injection hn with e1 e2
  have hlt : l.length < (numsS s).length := (List.getElem?_eq_some_iff.1 hy).1
  subst e1
  refine ⟨?_, by simp; omega, ?_⟩
  · rw [List.length_append, List.length_singleton, take_snoc hy, ← h1]
  · rw [← e2, List.length_append, List.length_singleton]
theorem rdQ_none {ink l : List Int} {i : Nat} (h : rdQ ink l i) (hi : i < ink.length) (hn : numF 1152921504606846976 (ink.drop i) = none) : noQ ink := fun s hs he => by
  obtain ⟨y, hy, hb, e⟩ := rdQ_head h hi hs he
  rw [e, numF_put _ hb.1 (by omega) (by omega)] at hn
  cases hn
/-- All numbers are read. -/
theorem rdQ_end {ink l : List Int} {i : Nat} (h : rdQ ink l i) (hi : ink.length ≤ i) : ∀ s, svMay s = true → bytN (numsS s) = ink → l = numsS s := fun s hs he => by
  obtain ⟨h1, h2, h3⟩ := h s hs he
  rw [List.drop_eq_nil_of_le hi] at h3
  have := bytN_ge ((numsS s).drop l.length)
  rw [← h3, List.length_drop] at this
  simp only [List.length_nil] at this
  rw [h1, List.take_of_length_le (by omega)]
/-- Bytes whose payload is a form of nothing are none themselves. -/
theorem noQ_enc {b : List Int} (h : noQ (unwrapF b).1) : ∀ s, encS s ≠ (b, 0) := fun s he => by
  obtain ⟨h1, h2, _⟩ := enc_back he
  rw [h1] at h
  exact h s h2 rfl
/-- The values and the mail, as far as they are read. -/
def valsD (l : List Int) (k : Nat) : List Ml := (List.range k).map fun i => (IntKind.i64.wrap (l.getD (4 + 2 * i) 0 - 1), IntKind.i64.wrap (l.getD (5 + 2 * i) 0 - 1))
def mailD (l : List Int) (m k : Nat) : List Ml := (List.range k).map fun i => (l.getD (5 + 2 * m + 2 * i) 0, l.getD (6 + 2 * m + 2 * i) 0)
theorem valsD_len (l : List Int) (k : Nat) : (valsD l k).length = k := by simp [valsD]
theorem mailD_len (l : List Int) (m k : Nat) : (mailD l m k).length = k := by simp [mailD]
theorem valsD_snoc (l : List Int) (k : Nat) : valsD l (k + 1) = valsD l k ++ [(IntKind.i64.wrap (l.getD (4 + 2 * k) 0 - 1), IntKind.i64.wrap (l.getD (5 + 2 * k) 0 - 1))] := by simp [valsD, List.range_succ]
theorem mailD_snoc (l : List Int) (m k : Nat) : mailD l m (k + 1) = mailD l m k ++ [(l.getD (5 + 2 * m + 2 * k) 0, l.getD (6 + 2 * m + 2 * k) 0)] := by simp [mailD, List.range_succ]
end Go.Proofs.YthakibcfmbkpkaaDoor

namespace Go.Proofs.YthakibcfmbkpkaaDoor
set_option maxRecDepth 100000
open Go.ChangeShapes Go.WideShapes Go.ChangeAt Go.RowKit

/-- What is made lies in the block B, its rows behind it; below B nothing turns. -/
structure DcI (w X : World) (B : Nat) (a b : Int) (c : Bool) (vv vm : Value) (vs ms : List Ml) : Prop where
  box : BX 34 X B #[.int .i64 a, .int .i64 b, .bool c, vv, vm]
  vals : X.ownsRow (B + 1) 73 2 vv vs.length (vs.flatMap encM)
  mail : X.ownsRow (B + 1) 75 2 vm ms.length (ms.flatMap encM)
  low : Below B w X
  size : B + 1 ≤ X.heap.size
section
variable {w X X' : World} {B : Nat} {a b : Int} {c : Bool} {vv vm v' : Value} {vs ms l2 : List Ml}
theorem DcI.drew (h : DcI w X B a b c vv vm vs ms) : DcI w X.drew B a b c vv vm vs ms := ⟨h.box, h.vals, h.mail, h.low.drew, h.size⟩
theorem DcI.alloc (h : DcI w X B a b c vv vm vs ms) (ob : Obj) : DcI w (X.alloc ob) B a b c vv vm vs ms :=
  ⟨h.box.below (below_alloc _ _) h.box.lt, h.vals.alloc _, h.mail.alloc _, h.low.alloc (by have := h.size; omega) _, by have := h.size; simp; omega⟩
theorem DcI.setV (h : DcI w X B a b c vv vm vs ms) (hg : X.grownBy X' vv.ownBlock) (ho : X'.ownsRow (B + 1) 73 2 v' l2.length (l2.flatMap encM)) : BX 34 X' B #[.int .i64 a, .int .i64 b, .bool c, vv, vm] ∧ Below B w X' ∧ DcI w (X'.setCell ⟨B, 3, none⟩ v') B a b c v' vm l2 ms := by
  have hk : Kept (fun k => B + 1 ≤ k) X X' := (Kept.refl _ X).grown hg fun k e => .inl (h.vals.lt k e).1
  have hs := h.size
  have hb := h.box.kept hk (by omega)
  have hm := h.mail.kept hg (own_apart h.mail h.vals (by decide))
  have hl := h.low.trans (hk.below (B := B) (by omega) fun k e => by omega)
  exact ⟨hb, hl, hb.set 3 v', hb.own ho (by decide), hb.own hm (by decide), hl.setCell (by simp) _, by have := hk.size; simp; omega⟩
theorem DcI.setM (h : DcI w X B a b c vv vm vs ms) (hg : X.grownBy X' vm.ownBlock) (ho : X'.ownsRow (B + 1) 75 2 v' l2.length (l2.flatMap encM)) : BX 34 X' B #[.int .i64 a, .int .i64 b, .bool c, vv, vm] ∧ Below B w X' ∧ DcI w (X'.setCell ⟨B, 4, none⟩ v') B a b c vv v' vs l2 := by
  have hk : Kept (fun k => B + 1 ≤ k) X X' := (Kept.refl _ X).grown hg fun k e => .inl (h.mail.lt k e).1
  have hs := h.size
  have hb := h.box.kept hk (by omega)
  have hm := h.vals.kept hg (own_apart h.vals h.mail (by decide))
  have hl := h.low.trans (hk.below (B := B) (by omega) fun k e => by omega)
  exact ⟨hb, hl, hb.set 4 v', hb.own hm (by decide), hb.own ho (by decide), hl.setCell (by simp) _, by have := hk.size; simp; omega⟩
end
end Go.Proofs.YthakibcfmbkpkaaDoor

namespace Go.Proofs.YthakibcfmbkpkaaDoor
set_option maxRecDepth 100000
open Go.ChangeShapes Go.WideShapes Go.ChangeAt Go.RowKit

theorem mayM_in (a b : Int) : mayM (a, b) = (inB a 0 199 && inB b 0 4398046511104) := by
  rw [Bool.eq_iff_iff, mayM_iff]
  unfold inB
  simp only [Bool.and_eq_true, decide_eq_true_eq]
  omega
set_option maxHeartbeats 1000000 in
theorem mailMay_any (m : Ml) (w : World) : Calls Tryd.prog 82 #[.agg #[.int .i64 m.1, .int .i64 m.2]] w fun e w' => e = .returned (.bool (mayM m)) ∧ Below w.heap.size w w' := by
  obtain ⟨a, b⟩ := m
  rw [mayM_in]
  simp only
  have hb : ∀ o, Below w.heap.size w (w.alloc o) := fun o => below_alloc w o
  cases h0 : inB a 0 199
  · go_enter Tryd.func82, Tryd.ntmps82
    go_wp2_with fail
    refine (in_any _ _ _ _).mono ?_
    rw [h0]
    rintro e w1 ⟨rfl, rfl⟩
    go_wp2_with fail
    go_ret
    exact ⟨rfl, hb _⟩
  · have HI : Hid (∀ X, Calls Tryd.prog 19 #[.int .i64 b, .int .i64 0, .int .i64 4398046511104] X fun e w' => e = .returned (.bool (inB b 0 4398046511104)) ∧ w' = X) := fun X => in_any b 0 4398046511104 X
    rw [Bool.true_and]
    generalize inB b 0 4398046511104 = r at HI ⊢
    go_enter Tryd.func82, Tryd.ntmps82
    go_wp2_with fail
    refine (in_any _ _ _ _).mono ?_
    rw [h0]
    rintro e w1 ⟨rfl, rfl⟩
    go_wp2_with fail
    refine (HI.out _).mono ?_
    rintro e w1 ⟨rfl, rfl⟩
    go_wp2_with fail
    go_ret
    exact ⟨rfl, hb _⟩
end Go.Proofs.YthakibcfmbkpkaaDoor

namespace Go.Proofs.YthakibcfmbkpkaaDoor
set_option maxRecDepth 100000
open Go.ChangeShapes Go.WideShapes Go.ChangeAt Go.RowKit Go.Sort

/-- x stands ahead of y. -/
def aheadMB (x y : Ml) : Bool := if x.1 ≠ y.1 then decide (x.1 < y.1) else decide (x.2 < y.2)
theorem aheadM_lt (x y : Ml) : aheadMB x y = ltMb x y := by
  unfold aheadMB ltMb
  by_cases h1 : x.1 ≠ y.1
  · rw [if_pos h1]; congr 1; exact propext ⟨fun h => by omega, fun h => by omega⟩
  · rw [if_neg h1]; congr 1; exact propext ⟨fun h => by omega, fun h => by omega⟩

set_option maxHeartbeats 1000000 in
theorem aheadM_any (x y : Ml) (w : World) : Calls Tryd.prog 94 #[.agg #[.int .i64 x.1, .int .i64 x.2], .agg #[.int .i64 y.1, .int .i64 y.2]] w fun e w' => e = .returned (.bool (ltMb x y)) ∧ Below w.heap.size w w' := by
  rw [← aheadM_lt]
  obtain ⟨a0, a1⟩ := x
  obtain ⟨b0, b1⟩ := y
  unfold aheadMB
  simp only
  have hb : ∀ o1 o2, Below w.heap.size w ((w.alloc o1).alloc o2) := fun o1 o2 => (below_alloc w o1).alloc (by simp) o2
  by_cases h1 : a0 = b0
  · rw [if_neg (by simpa using h1)]
    have e1 : (a0 != b0) = false := by simpa using h1
    clear h1
    go_enter Tryd.func94, Tryd.ntmps94
    go_wp2_with fail
    go_ret
    exact ⟨rfl, hb _ _⟩
  · rw [if_pos h1]
    have e1 : (a0 != b0) = true := by simpa using h1
    clear h1
    go_enter Tryd.func94, Tryd.ntmps94
    go_wp2_with fail
    go_ret
    exact ⟨rfl, hb _ _⟩

set_option maxHeartbeats 1000000 in
set_option maxRecDepth 100000 in
theorem isOrdered_any (v : Value) (l : List Ml) (w : World) (h : MlR w v l) :
    Calls Tryd.prog 83 #[v] w fun e w' => e = .returned (.bool (srtMb l)) ∧ Below w.heap.size w w' := by
  have HR : Hid (MlR w v l) := h
  obtain ⟨a, cap, rfl, hc, hm, _, _⟩ := h
  unfold maxLen at hm
  have HT : Hid (SrtM l → srtMb l = true) := (srtMb_iff l).2
  have HF : Hid (¬ SrtM l → srtMb l = false) := srtMb_false.2
  generalize srtMb l = r at *
  go_enter Tryd.func83, Tryd.ntmps83
  go_wp2_with fail
  go_loopw [3] (fun i wr => ∃ k : Nat, k ≤ l.length ∧ i = .int .i64 ((k : Int) + 1) ∧ (∀ i x y, i < k → l[i]? = some x → l[i + 1]? = some y → ¬ ltM y x) ∧ Below w.heap.size w wr) (fun i _ => l.length + 1 - (intOf i).toNat)
  case atStart => exact ⟨0, by omega, rfl, fun i x y hi => by omega, Below.refl _ _⟩
  case round =>
    obtain ⟨k, hk, rfl, hs, hbel⟩ := hrel
    have HS : Hid (∀ i x y, i < k → l[i]? = some x → l[i + 1]? = some y → ¬ ltM y x) := hs
    have HB : Hid (Below w.heap.size w wr) := hbel
    have hsr := hbel.size
    clear hs hbel
    by_cases hlt : k + 1 < l.length
    · obtain ⟨b, off, cap', e1, _, _, lb, hv⟩ := MlR.at (HR.out.below HB.out (Nat.le_refl _)) (by omega)
      injection e1 with e1 _ e3
      subst e1 e3
      obtain ⟨x, hx⟩ := getX hlt
      obtain ⟨y, hy⟩ := getX (show k < l.length by omega)
      obtain ⟨x1, x2⟩ := hv _ _ hx
      obtain ⟨y1, y2⟩ := hv _ _ hy
      have g1 := cell_regrown x1
      have g2 := cell_regrown x2
      have g3 := cell_regrown y1
      have g4 := cell_regrown y2
      have HN : Hid (¬ ltM x y → ∀ i a b, i < k + 1 → l[i]? = some a → l[i + 1]? = some b → ¬ ltM b a) := fun h i a b hi ha hb2 => by
        by_cases e : i = k
        · subst e
          rw [hy] at ha
          rw [hx] at hb2
          injection ha with ha
          injection hb2 with hb2
          subst ha hb2
          exact h
        · exact HS.out i a b (by omega) ha hb2
      have HRR : Hid (ltM x y → r = false) := fun h => HF.out fun h2 => h2 k y x hy hx h
      have EE : ∀ d os, Calls Tryd.prog 94 #[.agg #[.int .i64 x.1, .int .i64 x.2], .agg #[.int .i64 y.1, .int .i64 y.2]] (grow (redrawn wr d) os) fun e w'' => e = .returned (.bool (ltMb x y)) ∧ ∃ p : Regrown, w'' = grow (redrawn wr p.d) p.os := fun d os => Calls.regrown_of (aheadM_any x y _)
      have HLT : Hid ((ltMb x y = true → ltM x y) ∧ (ltMb x y = false → ¬ ltM x y)) := ⟨ltMb_true.1, ltMb_false.1⟩
      generalize ltMb x y = c at *
      have i1 : (k : Int) + 1 < (l.length : Int) := by omega
      have i2 : (k : Int) < (l.length : Int) := by omega
      have i3 : (0 : Int) ≤ (k : Int) := by omega
      have i4 : (0 : Int) ≤ (k : Int) + 1 := by omega
      have i5 : (k : Int) + 1 - 1 = (k : Int) := by omega
      have i6 : IntKind.i64.wrap (k : Int) = (k : Int) := wrap_id64 (by omega) (by omega)
      have i7 : IntKind.i64.wrap ((k : Int) + 1 + 1) = (k : Int) + 1 + 1 := wrap_id64 (by omega) (by omega)
      have HSX : Hid True := trivial
      clear x1 x2 y1 y2 hx hy HS hv HSX
      go_wp2_with fail
      refine wp_region_quiet_below (by kernel_rfl) (by kernel_rfl) ?_
      repeat (quiet_step (exact EE _ _))
      refine wpQuiet_nil ?_
      intro _ hw'
      obtain ⟨⟨dq, osq⟩, hw''⟩ := hw'
      have HB9 : Hid (Below w.heap.size w (grow (redrawn wr dq) osq)) := HB.out.trans ((below_regrown wr dq osq).mono hsr)
      subst hw''
      generalize grow (redrawn wr dq) osq = W9 at HB9 ⊢
      clear g1 g2 g3 g4 EE
      cases c with
      | true =>
        have HX : Hid (r = false) := HRR.out (HLT.out.1 rfl)
        go_wp2_with fail
        go_ret
        exact ⟨by rw [HX.out]; rfl, HB9.out⟩
      | false =>
        have HX : Hid _ := HN.out (HLT.out.2 rfl)
        go_wp2_with fail
        go_roundw
        case rel => exact ⟨k + 1, by omega, by go_num, HX.out, HB9.out⟩
        case measure => simp [intOf]; omega
    · have HX : Hid (r = true) := HT.out fun i x y h1 h2 => HS.out i x y (by have := (List.getElem?_eq_some_iff.1 h2).1; omega) h1 h2
      have i1 : ¬ (k : Int) + 1 < (l.length : Int) := by omega
      go_wp2_with fail
      go_ret
      exact ⟨by rw [HX.out]; rfl, HB.out⟩

/-- x is put behind A and ahead of B. -/
theorem putM_sorted {A B : List Ml} {x : Ml} (h : InM (A ++ B)) (hB : ∀ y ∈ B, ltM x y) (hA : ∀ z, A.getLast? = some z → ¬ ltM x z) : InM (A ++ x :: B) := by
  unfold InM at *
  rw [List.pairwise_append] at h ⊢
  obtain ⟨h1, h2, h3⟩ := h
  have hAx : ∀ a ∈ A, leM a x = true := by
    intro a ha
    rw [leM_iff]
    rcases List.eq_nil_or_concat A with rfl | ⟨A', z, rfl⟩
    · simp at ha
    · have hz : ¬ ltM x z := hA z (by simp)
      simp only [List.concat_eq_append] at ha h1
      rw [List.mem_append] at ha
      rcases ha with ha | ha
      · have := (List.pairwise_append.1 h1).2.2 a ha z (by simp)
        rw [leM_iff] at this
        unfold ltM at *; omega
      · simp at ha; subst ha; exact hz
  refine ⟨h1, ?_, ?_⟩
  · rw [List.pairwise_cons]
    exact ⟨fun y hy => by have := hB y hy; rw [leM_iff]; unfold ltM at *; omega, h2⟩
  · intro a ha y hy
    rcases List.mem_cons.1 hy with rfl | hy
    · exact hAx a ha
    · exact h3 a ha y hy
theorem putM_perm {A B s l : List Ml} {x : Ml} (h : A ++ B = s) (hp : s.Perm l) : (A ++ x :: B).Perm (l ++ [x]) := by
  subst h
  exact (List.perm_middle.trans (List.Perm.cons x hp)).trans (List.perm_append_singleton x l).symm
end Go.Proofs.YthakibcfmbkpkaaDoor

namespace Go.Proofs.YthakibcfmbkpkaaDoor
set_option maxRecDepth 100000
open Go.ChangeShapes Go.WideShapes Go.ChangeAt Go.RowKit

theorem valS_in (x : Ml) : valS x = (inB x.1 (-1) 4398046511104 && inB x.2 (-1) 199) := by
  rw [Bool.eq_iff_iff, valS_iff]
  unfold inB
  simp only [Bool.and_eq_true, decide_eq_true_eq]
  omega
set_option maxHeartbeats 1000000 in
theorem topD_any (w : World) : Calls Tryd.prog 93 #[.int .i64 1] w fun e w' => e = .returned (.int .i64 4398046511104) ∧ w' = w := by
  go_enter Tryd.func93, Tryd.ntmps93
  go_wp2_with fail
  go_ret
  exact ⟨rfl, rfl⟩
section
open Go.Sort
set_option maxHeartbeats 1000000 in
set_option maxRecDepth 100000 in
theorem valMayS_any (x : Ml) (w : World) :
    Calls Tryd.prog 81 #[.int .i64 1, .agg #[.int .i64 x.1, .int .i64 x.2]] w fun e w' => e = .returned (.bool (valS x)) ∧ RowKit.Below w.heap.size w w' := by
  have hF := topD_any
  rw [valS_in]
  obtain ⟨W, hW⟩ : ∃ W, w.alloc (.cells #[.int .i64 x.1, .int .i64 x.2] 73) = W := ⟨_, rfl⟩
  have hX : BX 73 W w.heap.size #[.int .i64 x.1, .int .i64 x.2] := by rw [← hW]; exact BX.new _ _ _
  have HB : Hid (RowKit.Below w.heap.size w W) := by show RowKit.Below _ _ _; rw [← hW]; exact below_alloc _ _
  obtain ⟨c0, c1, _⟩ := hX.all2
  have g0 := cell_regrown c0
  have g1 := cell_regrown c1
  have EG : ∀ d os, Calls Tryd.prog 93 #[.int .i64 1] (grow (redrawn W d) os) fun e w'' => e = .returned (.int .i64 4398046511104) ∧ ∃ p : Regrown, w'' = grow (redrawn W p.d) p.os := fun d os => Calls.regrown_of ((hF _).mono (fun e w' h => ⟨h.1, by rw [h.2]; exact Below.refl _ _⟩))
  have EW : ∀ v a b d os, Calls Tryd.prog 19 #[.int .i64 v, .int .i64 a, .int .i64 b] (grow (redrawn W d) os) fun e w'' => e = .returned (.bool (inB v a b)) ∧ ∃ p : Regrown, w'' = grow (redrawn W p.d) p.os := fun v a b d os => Calls.regrown_of ((in_any v a b _).mono (fun e w' h => ⟨h.1, by rw [h.2]; exact Below.refl _ _⟩))
  clear hF hX c0 c1
  cases h1 : inB x.1 (-1) 4398046511104
  · go_enter Tryd.func81, Tryd.ntmps81
    go_upto_region 1 with fail
    refine wp_region_quiet_below (by kernel_rfl) (by kernel_rfl) ?_
    repeat (quiet_step (first | (go_at_call 19; exact EW _ _ _ _ _) | exact EG _ _))
    refine wpQuiet_nil ?_
    intro _ hw'
    obtain ⟨⟨dq, osq⟩, hw''⟩ := hw'
    have HB9 : Hid (RowKit.Below W.heap.size W (grow (redrawn W dq) osq)) := below_regrown W dq osq
    subst hw''
    generalize grow (redrawn W dq) osq = W9 at HB9 ⊢
    have HC : Hid (RowKit.Below w.heap.size w W9) := HB.out.trans (HB9.out.mono HB.out.size)
    clear g0 g1 EG EW
    go_wp2_with fail
    go_ret
    exact ⟨rfl, HC.out⟩
  · cases h2 : inB x.2 (-1) 199
    all_goals go_enter Tryd.func81, Tryd.ntmps81
    all_goals go_upto_region 1 with fail
    all_goals refine wp_region_quiet_below (by kernel_rfl) (by kernel_rfl) ?_
    all_goals repeat (quiet_step (first | (go_at_call 19; exact EW _ _ _ _ _) | exact EG _ _))
    all_goals refine wpQuiet_nil ?_
    all_goals intro _ hw'
    all_goals obtain ⟨⟨dq, osq⟩, hw''⟩ := hw'
    all_goals have HB9 : Hid (RowKit.Below W.heap.size W (grow (redrawn W dq) osq)) := below_regrown W dq osq
    all_goals subst hw''
    all_goals generalize grow (redrawn W dq) osq = W9 at HB9 ⊢
    all_goals have HC : Hid (RowKit.Below w.heap.size w W9) := HB.out.trans (HB9.out.mono HB.out.size)
    all_goals clear g0 g1 EG EW
    all_goals go_wp2_with fail
    all_goals go_ret
    all_goals exact ⟨rfl, HC.out⟩

end
theorem svMay_len {s : SvS} (h : ¬ (s.vals.length ≤ 200 ∧ s.mail.length ≤ 5000)) : svMay s = false := by rw [Bool.eq_false_iff]; intro g; exact h ⟨(svMay_iff.1 g).2.1, (svMay_iff.1 g).2.2.2.1⟩

set_option maxHeartbeats 4000000 in
set_option maxRecDepth 100000 in
theorem savedMay_any (s : SvS) (vv vm : Value) (w : World) (hv : MlR w vv s.vals) (hm : MlR w vm s.mail) :
    Calls Tryd.prog 67 #[.agg #[.int .i64 s.step, .int .i64 s.phase, .bool s.fresh, vv, vm]] w fun e w' => e = .returned (.bool (svMay s)) ∧ Below w.heap.size w w' := by
  have HV : Hid (MlR w vv s.vals) := hv
  have HM : Hid (MlR w vm s.mail) := hm
  obtain ⟨va, vc, rfl, hvc, hvm, _, _⟩ := hv
  obtain ⟨ma, mc, rfl, hmc, hmm, _, _⟩ := hm
  unfold maxLen at hvm hmm
  have H1 : Hid (¬ (0 ≤ s.step ∧ s.step ≤ 100000 ∧ (s.phase = 0 ∨ s.phase = 1)) ∨ ¬ (s.vals.length ≤ 200 ∧ s.mail.length ≤ 5000) → svMay s = false) := fun h => by
    rcases h with h | h
    · exact svMay_head h
    · exact svMay_len h
  have H2 : Hid (valA s.vals = false → svMay s = false) := fun h => svMay_vals (fun g => by rw [h] at g; cases g.2)
  have H3 : Hid (mayA s.mail = false → svMay s = false) := fun h => by
    rw [Bool.eq_false_iff]
    intro g
    rw [(svMay_iff.1 g).2.2.2.2.2] at h
    cases h
  have H4 : Hid ((0 ≤ s.step ∧ s.step ≤ 100000 ∧ (s.phase = 0 ∨ s.phase = 1)) → (s.vals.length ≤ 200 ∧ s.mail.length ≤ 5000) → valA s.vals = true → mayA s.mail = true → svMay s = srtMb s.mail) := fun h1 h2 h3 h4 => by
    rw [Bool.eq_iff_iff, svMay_iff]
    exact ⟨fun h => h.2.2.2.2.1, fun h => ⟨h1, h2.1, h3, h2.2, h, h4⟩⟩
  have CO : Hid (∀ X, MlR X (.slice ma s.mail.length mc) s.mail → Calls Tryd.prog 83 #[.slice ma s.mail.length mc] X fun e w' => e = .returned (.bool (srtMb s.mail)) ∧ Below X.heap.size X w') := fun X hX => isOrdered_any _ s.mail X hX
  generalize svMay s = r at *
  generalize srtMb s.mail = bs at *
  obtain ⟨st, ph, fr, vs, ms⟩ := s
  simp only at HV HM H1 H2 H3 H4 CO hvc hvm hmc hmm ⊢
  have X0 : BX 34 (w.alloc (.cells #[.int .i64 st, .int .i64 ph, .bool fr, .slice va vs.length vc, .slice ma ms.length mc] 34)) w.heap.size #[.int .i64 st, .int .i64 ph, .bool fr, .slice va vs.length vc, .slice ma ms.length mc] := BX.new _ _ _
  have B0 : Below w.heap.size w (w.alloc (.cells #[.int .i64 st, .int .i64 ph, .bool fr, .slice va vs.length vc, .slice ma ms.length mc] 34)) := below_alloc _ _
  go_enter Tryd.func67, Tryd.ntmps67
  go_upto_region 1 with fail
  generalize w.alloc (.cells #[.int .i64 st, .int .i64 ph, .bool fr, .slice va vs.length vc, .slice ma ms.length mc] 34) = W0 at *
  have HK : Hid (∀ X, Below W0.heap.size W0 X → BX 34 X w.heap.size #[.int .i64 st, .int .i64 ph, .bool fr, .slice va vs.length vc, .slice ma ms.length mc] ∧ Below w.heap.size w X ∧ MlR X (.slice va vs.length vc) vs ∧ MlR X (.slice ma ms.length mc) ms) := fun X hX => ⟨X0.below hX X0.lt, B0.trans (hX.mono B0.size), HV.out.below (B0.trans (hX.mono B0.size)) (Nat.le_refl _), HM.out.below (B0.trans (hX.mono B0.size)) (Nat.le_refl _)⟩
  have A0 : Hid (Below W0.heap.size W0 W0) := Below.refl _ _
  have BW0 : Hid (Below w.heap.size w W0) := B0
  obtain ⟨c0, c1, c2, c3, c4⟩ := X0.all5
  clear X0 B0 HV HM
  obtain ⟨b1, hb1⟩ : ∃ b : Bool, b = decide (¬ (0 ≤ st ∧ st ≤ 100000 ∧ (ph = 0 ∨ ph = 1)) ∨ ¬ (vs.length ≤ 200 ∧ ms.length ≤ 5000)) := ⟨_, rfl⟩
  have HB1 : Hid (b1 = decide (¬ (0 ≤ st ∧ st ≤ 100000 ∧ (ph = 0 ∨ ph = 1)) ∨ ¬ (vs.length ≤ 200 ∧ ms.length ≤ 5000))) := hb1
  clear hb1
  go_cut [26] from 26 to 26 (fun t wx => t = .bool b1 ∧ W0 = wx)
  case first =>
    clear H1 H2 H3 H4 CO HK
    have CI : ∀ n lo hi X, Calls Tryd.prog 19 #[.int .i64 n, .int .i64 lo, .int .i64 hi] X fun e w' => e = .returned (.bool (inB n lo hi)) ∧ w' = X := fun n lo hi X => in_any n lo hi X
    have HCI : Hid (∀ n lo hi X, Calls Tryd.prog 19 #[.int .i64 n, .int .i64 lo, .int .i64 hi] X fun e w' => e = .returned (.bool (inB n lo hi)) ∧ X = w') := fun n lo hi X => (CI n lo hi X).mono fun e w' h => ⟨h.1, h.2.symm⟩
    clear CI
    by_cases h1 : 0 ≤ st ∧ st ≤ 100000
    · have i1 : inB st 0 100000 = true := in_yes h1
      by_cases h2 : 0 ≤ ph ∧ ph ≤ 1
      · have i2 : inB ph 0 1 = true := in_yes h2
        by_cases h3 : 200 < vs.length
        · have e : Hid (Value.bool true = .bool b1) := by show _ = _; rw [HB1.out, decide_eq_true (by omega)]
          have t3 : decide ((vs.length : Int) > 200) = true := decide_eq_true (by omega)
          have t3' : (200 : Int) < (vs.length : Int) := by omega
          clear HB1 h1 h2
          go_wp2_with fail
          refine (HCI.out _ _ _ _).mono ?_
          rw [i1]
          rintro e1 w1 ⟨rfl, rfl⟩
          go_wp2_with fail
          refine (HCI.out _ _ _ _).mono ?_
          rw [i2]
          rintro e1 w1 ⟨rfl, rfl⟩
          go_wp2_with fail
          go_meet
          case rel => exact ⟨e.out, rfl⟩
        · have t3 : decide ((vs.length : Int) > 200) = false := decide_eq_false (by omega)
          have t3' : ¬ (200 : Int) < (vs.length : Int) := by omega
          by_cases h4 : 5000 < ms.length
          · have e : Hid (Value.bool true = .bool b1) := by show _ = _; rw [HB1.out, decide_eq_true (by omega)]
            have t4 : decide ((ms.length : Int) > 5000) = true := decide_eq_true (by omega)
            have t4' : (5000 : Int) < (ms.length : Int) := by omega
            clear HB1 h1 h2
            go_wp2_with fail
            refine (HCI.out _ _ _ _).mono ?_
            rw [i1]
            rintro e1 w1 ⟨rfl, rfl⟩
            go_wp2_with fail
            refine (HCI.out _ _ _ _).mono ?_
            rw [i2]
            rintro e1 w1 ⟨rfl, rfl⟩
            go_wp2_with fail
            go_meet
            case rel => exact ⟨e.out, rfl⟩
          · have e : Hid (Value.bool false = .bool b1) := by show _ = _; rw [HB1.out, decide_eq_false (by omega)]
            have t4 : decide ((ms.length : Int) > 5000) = false := decide_eq_false (by omega)
            have t4' : ¬ (5000 : Int) < (ms.length : Int) := by omega
            clear HB1 h1 h2
            go_wp2_with fail
            refine (HCI.out _ _ _ _).mono ?_
            rw [i1]
            rintro e1 w1 ⟨rfl, rfl⟩
            go_wp2_with fail
            refine (HCI.out _ _ _ _).mono ?_
            rw [i2]
            rintro e1 w1 ⟨rfl, rfl⟩
            go_wp2_with fail
            go_meet
            case rel => exact ⟨e.out, rfl⟩
      · have i2 : inB ph 0 1 = false := in_no h2
        have e : Hid (Value.bool true = .bool b1) := by show _ = _; rw [HB1.out, decide_eq_true (by omega)]
        clear HB1 h1 h2
        go_wp2_with fail
        refine (HCI.out _ _ _ _).mono ?_
        rw [i1]
        rintro e1 w1 ⟨rfl, rfl⟩
        go_wp2_with fail
        refine (HCI.out _ _ _ _).mono ?_
        rw [i2]
        rintro e1 w1 ⟨rfl, rfl⟩
        go_wp2_with fail
        go_meet
        case rel => exact ⟨e.out, rfl⟩
    · have i1 : inB st 0 100000 = false := in_no h1
      have e : Hid (Value.bool true = .bool b1) := by show _ = _; rw [HB1.out, decide_eq_true (by omega)]
      clear HB1 h1
      go_wp2_with fail
      refine (HCI.out _ _ _ _).mono ?_
      rw [i1]
      rintro e1 w1 ⟨rfl, rfl⟩
      go_wp2_with fail
      go_meet
      case rel => exact ⟨e.out, rfl⟩
  case rest =>
  obtain ⟨rfl, rfl⟩ := hcut
  cases b1
  · have HH : Hid ((0 ≤ st ∧ st ≤ 100000 ∧ (ph = 0 ∨ ph = 1)) ∧ vs.length ≤ 200 ∧ ms.length ≤ 5000) := by
      have h := of_decide_eq_false HB1.out.symm
      constructor
      · exact Classical.not_not.1 fun g => h (.inl g)
      · exact Classical.not_not.1 fun g => h (.inr g)
    clear HB1 H1
    go_wp2_with fail
    go_loopw [3] (fun i wr => ∃ k : Nat, k ≤ vs.length ∧ i = .int .i64 k ∧ valA (vs.take k) = true ∧ Below W0.heap.size W0 wr) (fun i _ => vs.length - (intOf i).toNat)
    case atStart => exact ⟨0, by omega, rfl, rfl, A0.out⟩
    case round =>
      clear c0 c1 c2 c3 c4
      obtain ⟨k, hk, rfl, hno, hbel⟩ := hrel
      have HNO : Hid (valA (vs.take k) = true) := hno
      have AB : Hid (Below W0.heap.size W0 wr) := hbel
      have hsr := hbel.size
      obtain ⟨Q1, bw1, MV, _⟩ := HK.out _ hbel
      have BW1 : Hid (Below w.heap.size w wr) := bw1
      obtain ⟨c0, c1, c2, c3, c4⟩ := Q1.all5
      clear hno hbel bw1 Q1
      by_cases hlt : k < vs.length
      · obtain ⟨b, off, cap', e1, _, _, lt, hv⟩ := MlR.at MV (by omega)
        injection e1 with e1 e2 e3
        subst e1 e3
        clear e2
        obtain ⟨x, hx⟩ := getX hlt
        obtain ⟨d1, d2⟩ := hv k x hx
        have HX : Hid (vs[k]? = some x) := hx
        have p0 : (0 : Int) ≤ (k : Int) := by omega
        have p1 : (k : Int) < (vs.length : Int) := by omega
        clear hv hx MV
        cases ho : valS x
        · have e := H2.out (valA_hit HX.out ho)
          subst e
          have CV : Hid (∀ X, Calls Tryd.prog 81 #[.int .i64 1, .agg #[.int .i64 x.1, .int .i64 x.2]] X fun e w' => e = .returned (.bool false) ∧ Below X.heap.size X w') := fun X => by have := valMayS_any x X; rw [ho] at this; exact this
          clear ho H2 H3 H4 CO
          go_wp2_with fail
          refine (CV.out _).mono ?_
          rintro e w2 ⟨rfl, hb2⟩
          have B2 : Hid (Below w.heap.size w w2) := BW1.out.trans (hb2.mono BW1.out.size)
          clear hb2
          go_wp2_with fail
          go_ret
          exact ⟨rfl, B2.out⟩
        · have HN2 : Hid (valA (vs.take (k + 1)) = true) := valA_cut HX.out HNO.out ho
          have CV : Hid (∀ X, Calls Tryd.prog 81 #[.int .i64 1, .agg #[.int .i64 x.1, .int .i64 x.2]] X fun e w' => e = .returned (.bool true) ∧ Below X.heap.size X w') := fun X => by have := valMayS_any x X; rw [ho] at this; exact this
          clear ho
          go_wp2_with fail
          refine (CV.out _).mono ?_
          rintro e w2 ⟨rfl, hb2⟩
          have A2 : Hid (Below W0.heap.size W0 w2) := AB.out.trans (hb2.mono hsr)
          clear hb2
          go_wp2_with fail
          go_roundw
          case rel => exact ⟨k + 1, by omega, by go_num, HN2.out, A2.out⟩
          case measure => simp [intOf]; omega
      · have ek : vs.take k = vs := List.take_of_length_le (by omega)
        have HVA : Hid (valA vs = true) := by have := HNO.out; rwa [ek] at this
        obtain ⟨V1, rfl⟩ : ∃ V, V = wr := ⟨wr, rfl⟩
        clear ek HNO H2 MV
        go_wp2_with fail
        go_loopw [4] (fun i wr => ∃ k : Nat, k ≤ ms.length ∧ i = .int .i64 k ∧ mayA (ms.take k) = true ∧ Below W0.heap.size W0 wr) (fun i _ => ms.length - (intOf i).toNat)
        case atStart => exact ⟨0, by omega, rfl, rfl, AB.out⟩
        case round =>
          clear c0 c1 c2 c3 c4 AB BW1
          obtain ⟨k, hk, rfl, hno, hbel⟩ := hrel
          have HNO : Hid (mayA (ms.take k) = true) := hno
          have AB : Hid (Below W0.heap.size W0 wr) := hbel
          have hsr := hbel.size
          obtain ⟨Q1, bw1, _, MM⟩ := HK.out _ hbel
          have BW1 : Hid (Below w.heap.size w wr) := bw1
          have RM : Hid (MlR wr (.slice ma ms.length mc) ms) := MM
          obtain ⟨c0, c1, c2, c3, c4⟩ := Q1.all5
          clear hno hbel bw1 Q1
          by_cases hlt : k < ms.length
          · obtain ⟨b, off, cap', e1, _, _, lt, hv⟩ := MlR.at MM (by omega)
            injection e1 with e1 e2 e3
            subst e1 e3
            clear e2
            obtain ⟨x, hx⟩ := getX hlt
            obtain ⟨d1, d2⟩ := hv k x hx
            have HX : Hid (ms[k]? = some x) := hx
            have p0 : (0 : Int) ≤ (k : Int) := by omega
            have p1 : (k : Int) < (ms.length : Int) := by omega
            clear hv hx MM
            cases ho : mayM x
            · have e := H3.out (mayA_hit HX.out ho)
              subst e
              have CV : Hid (∀ X, Calls Tryd.prog 82 #[.agg #[.int .i64 x.1, .int .i64 x.2]] X fun e w' => e = .returned (.bool false) ∧ Below X.heap.size X w') := fun X => by have := mailMay_any x X; rw [ho] at this; exact this
              clear ho H3 H4 CO
              go_wp2_with fail
              refine (CV.out _).mono ?_
              rintro e w2 ⟨rfl, hb2⟩
              have B2 : Hid (Below w.heap.size w w2) := BW1.out.trans (hb2.mono BW1.out.size)
              clear hb2
              go_wp2_with fail
              go_ret
              exact ⟨rfl, B2.out⟩
            · have HN2 : Hid (mayA (ms.take (k + 1)) = true) := mayA_cut HX.out HNO.out ho
              have CV : Hid (∀ X, Calls Tryd.prog 82 #[.agg #[.int .i64 x.1, .int .i64 x.2]] X fun e w' => e = .returned (.bool true) ∧ Below X.heap.size X w') := fun X => by have := mailMay_any x X; rw [ho] at this; exact this
              clear ho
              go_wp2_with fail
              refine (CV.out _).mono ?_
              rintro e w2 ⟨rfl, hb2⟩
              have A2 : Hid (Below W0.heap.size W0 w2) := AB.out.trans (hb2.mono hsr)
              clear hb2
              go_wp2_with fail
              go_roundw
              case rel => exact ⟨k + 1, by omega, by go_num, HN2.out, A2.out⟩
              case measure => simp [intOf]; omega
          · have ek : ms.take k = ms := List.take_of_length_le (by omega)
            have HR : Hid (r = bs) := H4.out HH.out.1 HH.out.2 HVA.out (by have := HNO.out; rwa [ek] at this)
            clear ek HNO H3 H4 MM
            go_wp2_with fail
            refine (CO.out _ RM.out).mono ?_
            rintro e w2 ⟨rfl, hb2⟩
            have B2 : Hid (Below w.heap.size w w2) := BW1.out.trans (hb2.mono BW1.out.size)
            clear hb2
            go_wp2_with fail
            go_ret
            exact ⟨ret_bool HR.out.symm, B2.out⟩
  · have e := H1.out (of_decide_eq_true HB1.out.symm)
    subst e
    clear HB1 H1 H2 H3 H4 CO
    go_wp2_with fail
    go_ret
    exact ⟨rfl, BW0.out⟩
end Go.Proofs.YthakibcfmbkpkaaDoor

namespace Go.Proofs.YthakibcfmbkpkaaDoor
set_option maxRecDepth 100000
open Go.ChangeShapes Go.WideShapes Go.ChangeAt Go.RowKit

set_option maxHeartbeats 400000 in
set_option maxRecDepth 100000 in
theorem summed_row (b off cap : Nat) (xs : List Int) (w : World) (hm : xs.length ≤ maxLen) (hx : ∀ x ∈ xs, 0 ≤ x ∧ x ≤ 255)
    (hcell : ∀ i, i < xs.length → w.cell? ⟨b, off + i, none⟩ = some (.int .u8 (xs.getD i 0))) :
    Calls Tryd.prog 80 #[.slice (some ⟨b, off, none⟩) xs.length cap] w fun e w' => e = .returned (.int .u32 (crc xs)) ∧ w' = w := by
  unfold maxLen at hm
  have HC : Hid (∀ i, i < xs.length → w.cell? ⟨b, off + i, none⟩ = some (.int .u8 (xs.getD i 0))) := hcell
  have HX : Hid (∀ x ∈ xs, 0 ≤ x ∧ x ≤ 255) := hx
  clear hcell hx
  go_enter Tryd.func80, Tryd.ntmps80
  go_wp2_with fail
  go_loop [3, 4] (fun n i => ∃ (k : Nat), k ≤ xs.length ∧ i = .int .i64 k ∧ n = .int .u32 (runR 4294967295 (xs.take k))) (fun _ i => xs.length - (intOf i).toNat)
  case atStart => exact ⟨0, by omega, rfl, rfl⟩
  case round =>
    obtain ⟨k, hk, rfl, rfl⟩ := hrel
    have hr := runR_lt (xs.take k) 4294967295 (by omega) (fun x hx => HX.out x (List.mem_of_mem_take hx))
    by_cases hlt : k < xs.length
    · have hck := HC.out k hlt
      have hxb := HX.out (xs.getD k 0) (by rw [List.getD_eq_getElem?_getD, List.getElem?_eq_getElem hlt]; exact List.getElem_mem hlt)
      have HN : Hid (runR 4294967295 (xs.take (k + 1)) = eight (runR 4294967295 (xs.take k) ^^^ (xs.getD k 0).toNat)) := by
        show _ = _
        rw [take_snocI hlt, runR_snoc]
      generalize runR 4294967295 (xs.take k) = r at *
      obtain ⟨x, hxe⟩ : ∃ x : Nat, xs.getD k 0 = (x : Int) := ⟨_, (Int.toNat_of_nonneg hxb.1).symm⟩
      rw [hxe] at hck hxb HN
      clear hxe
      have h8 : x < 256 := by omega
      clear hxb
      go_wp2_with fail
      go_loop [3, 5, 6] (fun s c j => ∃ (m S C : Nat), m ≤ 8 ∧ j = .int .i64 m ∧ s = .int .u32 S ∧ c = .int .u32 C ∧ S < 4294967296 ∧ C = x / 2 ^ m ∧ S ^^^ C = shN m (r ^^^ x)) (fun _ _ j => 8 - (intOf j).toNat)
      case atStart => exact ⟨0, r, x, by omega, rfl, rfl, rfl, hr, by simp, rfl⟩
      case round =>
        obtain ⟨m, S, C, hm8, rfl, rfl, rfl, hS, hC, hi⟩ := hrel
        have hC8 : C < 256 := by rw [hC]; exact Nat.lt_of_le_of_lt (Nat.div_le_self _ _) h8
        have HI : Hid (S ^^^ C = shN m (r ^^^ x)) := hi
        have HCC : Hid (C = x / 2 ^ m) := hC
        have HC2 : Hid (C / 2 = x / 2 ^ (m + 1)) := by show _ = _; rw [hC, Nat.div_div_eq_div_mul, Nat.pow_succ]
        clear hi hC
        have hxp := xorP (S / 2) (by omega)
        have hxp' : bits .xor .u32 ((S : Int) / 2) 3988292384 = ((S / 2 ^^^ 3988292384 : Nat) : Int) := hxp
        have HA := bit_apart S C
        have HB : Hid (sh (S ^^^ C) = (if (S + C) % 2 = 1 then S / 2 ^^^ 3988292384 else S / 2) ^^^ C / 2) := HA
        clear HA hxp
        by_cases hm1 : m < 8
        · by_cases hodd : (S + C) % 2 = 1
          · have HB2 : Hid (sh (S ^^^ C) = (S / 2 ^^^ 3988292384) ^^^ C / 2) := by show _ = _; rw [HB.out, if_pos hodd]
            have hlt2 := xor_lt (show S / 2 < 4294967296 by omega) (show 3988292384 < 4294967296 by omega)
            have ho : (IntKind.u32.wrap ((S : Int) + (C : Int)) % 2 == 1) = true := by rw [IntKind.wrap_u32']; simp; omega
            clear HB
            generalize S / 2 ^^^ 3988292384 = q at *
            go_wp2_with fail
            go_round
            case rel => exact ⟨m + 1, q, C / 2, by omega, by go_num, rfl, by simp, hlt2, HC2.out, by show _ = sh (shN m (r ^^^ x)); rw [← HI.out, HB2.out]⟩
            case measure => simp [intOf]; omega
          · have HB2 : Hid (sh (S ^^^ C) = S / 2 ^^^ C / 2) := by show _ = _; rw [HB.out, if_neg hodd]
            have ho : (IntKind.u32.wrap ((S : Int) + (C : Int)) % 2 == 1) = false := by rw [IntKind.wrap_u32']; simp; omega
            clear HB
            go_wp2_with fail
            go_round
            case rel => exact ⟨m + 1, S / 2, C / 2, by omega, by go_num, by simp, by simp, by omega, HC2.out, by show _ = sh (shN m (r ^^^ x)); rw [← HI.out, HB2.out]⟩
            case measure => simp [intOf]; omega
        · have HF : Hid (S = eight (r ^^^ x)) := by
            show _ = shN 8 (r ^^^ x)
            have e : m = 8 := by omega
            subst e
            have hc0 : C = 0 := by rw [HCC.out]; omega
            rw [← HI.out, hc0, Nat.xor_zero]
          clear HB
          go_wp2_with fail
          go_round
          case rel => exact ⟨k + 1, by omega, by go_num, by rw [HN.out, HF.out]; rfl⟩
          case measure => simp [intOf]; omega
    · have HQ : Hid (crc xs = 4294967295 - runR 4294967295 (xs.take k)) := by
        show _ = _
        rw [← ones_sub hr, List.take_of_length_le (by omega)]; rfl
      generalize runR 4294967295 (xs.take k) = r at *
      have hx32 : IntKind.u32.wrap (4294967295 - (r : Int)) = ((4294967295 - r : Nat) : Int) := by rw [IntKind.wrap_u32']; omega
      generalize 4294967295 - r = q at *
      go_wp2_with fail
      go_ret
      exact ⟨by rw [HQ.out]; rfl, rfl⟩
set_option maxRecDepth 100000 in
theorem summed_empty (a : Option Addr) (cap : Nat) (w : World) :
    Calls Tryd.prog 80 #[.slice a 0 cap] w fun e w' => e = .returned (.int .u32 0) ∧ w' = w := by
  go_enter Tryd.func80, Tryd.ntmps80
  go_wp2_with fail
  refine wp_loop_rounds 1 ?_
  rw [rounds_succ]
  go_wp2
  go_ret
  exact ⟨rfl, rfl⟩

theorem summed_any (v : Value) (xs : List Int) (w : World) (h : Reads .u8 w v xs) (hx : ∀ x ∈ xs, 0 ≤ x ∧ x ≤ 255) :
    Calls Tryd.prog 80 #[v] w fun e w' => e = .returned (.int .u32 (crc xs)) ∧ w' = w := by
  by_cases hn : 0 < xs.length
  · obtain ⟨b, off, cap, rfl, hc, hm, _, hcell⟩ := h.plain hn
    exact summed_row b off cap xs w (Nat.le_trans hc hm) hx hcell
  · have : xs = [] := List.eq_nil_of_length_eq_zero (by omega)
    subst this
    obtain ⟨a, cap, rfl, _, _⟩ := h.empty
    refine (summed_empty a cap w).mono ?_
    rintro e w' ⟨rfl, rfl⟩
    exact ⟨rfl, rfl⟩
end Go.Proofs.YthakibcfmbkpkaaDoor

namespace Go.Proofs.YthakibcfmbkpkaaDoor
set_option maxRecDepth 100000
open Go.ChangeShapes Go.WideShapes Go.ChangeAt Go.RowKit

set_option maxHeartbeats 800000 in
theorem packed_any (f : Nat) : ∀ (n : Int) (w : World), 0 ≤ n → n < 128 ^ (f + 1) → n ≤ 18446744073709551615 →
    Calls Tryd.prog 68 #[.int .u64 n] w fun e w' =>
      ∃ v', e = .returned v' ∧ w'.ownsRow w.heap.size 5 1 v' (put n).length ((put n).map (Value.int .u8)) ∧ Below w.heap.size w w' := by
  obtain ⟨i0, hi, hz0, hz1, hz2⟩ := info_parts Tryd.info5
  induction f with
  | zero =>
    intro n w h0 hf h1
    have hn : n < 128 := by simpa using hf
    clear hf
    go_enter Tryd.func68, Tryd.ntmps68
    go_wp2_with fail
    go_ret
    refine ⟨_, rfl, ?_, ?_⟩
    · rw [put_small hn]; exact own_new w _ (Nat.le_refl _) n
    · exact (Below.refl _ _).alloc (Nat.le_refl _) _
  | succ f ih =>
    intro n w h0 hf h1
    by_cases hn : n < 128
    · clear hf ih
      go_enter Tryd.func68, Tryd.ntmps68
      go_wp2_with fail
      go_ret
      refine ⟨_, rfl, ?_, ?_⟩
      · rw [put_small hn]; exact own_new w _ (Nat.le_refl _) n
      · exact (Below.refl _ _).alloc (Nat.le_refl _) _
    · have hd : n / 128 < 128 ^ (f + 1) := div128_lt (by rw [p128] at hf; exact hf)
      have IH := ih (n / 128) (w.alloc (.cells #[.int .u8 (n % 128 + 128)] 5)) (by omega) hd (by omega)
      have HI : Hid (Calls Tryd.prog 68 #[.int .u64 (n / 128)] (w.alloc (.cells #[.int .u8 (n % 128 + 128)] 5)) _) := IH
      clear IH ih hf hd
      go_enter Tryd.func68, Tryd.ntmps68
      go_wp2_with fail
      refine HI.out.mono ?_
      rintro e w1 ⟨v1, rfl, hown1, hbel1⟩
      have hl := put_len (n / 128)
      have hb1 : Below w.heap.size w w1 := ((Below.refl _ _).alloc (Nat.le_refl _) _).trans (hbel1.mono (by simp))
      have own0 := own_below (own_new w w.heap.size (Nat.le_refl _) (n % 128 + 128)) hbel1 (Nat.le_refl _)
      obtain ⟨g, cap, rfl, hg, hg2, hc, hm, hcell⟩ := own_shape hown1 (by omega)
      have hsz := hb1.size
      have HC : Hid (∀ (j : Nat) (u : Value), (List.map (Value.int IntKind.u8) (put (n / 128)))[j]? = some u → w1.cell? ((⟨g, 0, none⟩ : Addr).add j) = some u) := hcell
      clear HI hown1 hbel1 hcell
      go_wp2_with (at_builtin; refine wpList_append_own _ rfl _ _ 44 rfl w.heap.size 5 i0 (.int .u8 0) 1 1 Tryd.underlying44 hi hz0 hz1 hz2 rfl (by decide) _ _ _ rfl own0 ⟨g, 0, none⟩ (put (n / 128)).length cap ((put (n / 128)).map (Value.int .u8)) rfl (by simp) HC.out (bytes_oneCell _) ?d3 ?d4 ?d5 ?_)
      case d3 => unfold maxLen; simp; omega
      case d4 => simp; omega
      case d5 => first | omega | (simp; omega)
      intro v' w2 hown' hgrow _
      have hbel2 : Below w.heap.size w w2 := hb1.grown hgrow hsz (fun k hk => by simp [Value.ownBlock] at hk; omega)
      clear HC own0
      go_wp2
      go_ret
      exact ⟨v', rfl, by rw [put_big (by omega) h1]; simpa [Nat.add_comm] using hown', hbel2⟩
end Go.Proofs.YthakibcfmbkpkaaDoor

namespace Go.Proofs.YthakibcfmbkpkaaDoor
set_option maxRecDepth 100000
open Go.ChangeShapes Go.WideShapes Go.ChangeAt Go.RowKit

set_option maxHeartbeats 400000 in
set_option maxRecDepth 100000 in
theorem wrapped_any (v : Value) (xs : List Int) (w : World) (h : Reads .u8 w v xs) (hx : ∀ x ∈ xs, 0 ≤ x ∧ x ≤ 255) (hl : xs.length ≤ 20000) :
    Calls Tryd.prog 66 #[v] w fun e w' =>
      ∃ v', e = .returned (.tuple #[v', .int .i64 0]) ∧ w'.ownsRow w.heap.size 5 1 v' (wrap xs).length ((wrap xs).map (Value.int .u8)) ∧ Below w.heap.size w w' := by
  have HR : Hid (Reads .u8 w v xs) := h
  have HX : Hid (∀ x ∈ xs, 0 ≤ x ∧ x ≤ 255) := hx
  have HB : Hid (∀ x ∈ put xs.length ++ xs, 0 ≤ x ∧ x ≤ 255) := head_bytes hx hl
  have pl := put_len (xs.length : Int)
  have HS : Hid (wrap xs = (put xs.length ++ xs) ++ four (crc (put xs.length ++ xs))) := rfl
  have hcr := crc_lt HB.out
  obtain ⟨a, cap, rfl, _, _, _, _⟩ := h
  clear hx
  go_enter Tryd.func66, Tryd.ntmps66
  go_wp2_with fail
  refine (packed_any 9 (xs.length : Int) _ (by omega) (lt_128_10 (by omega)) (by omega)).mono ?_
  rintro e w1 ⟨v1, rfl, hown1, hbel1⟩
  have O1 : Hid (w1.ownsRow w.heap.size 5 1 v1 (put xs.length).length ((put xs.length).map (Value.int .u8))) := hown1
  have B1 : Hid (Below w.heap.size w w1) := hbel1
  clear hown1 hbel1
  generalize put (xs.length : Int) = hd at *
  go_wp2_with fail
  go_loopw [4, 5] (fun v i wr => ∃ k : Nat, k ≤ xs.length ∧ i = .int .i64 k ∧ wr.ownsRow w.heap.size 5 1 v (hd ++ xs.take k).length ((hd ++ xs.take k).map (Value.int .u8)) ∧ Below w.heap.size w wr) (fun _ i _ => xs.length - (intOf i).toNat)
  case atStart => exact ⟨0, by omega, rfl, by simpa using O1.out, B1.out⟩
  case round =>
    obtain ⟨k, hk, rfl, hown, hbel⟩ := hrel
    have hs := hbel.size
    by_cases hlt : k < xs.length
    · obtain ⟨b, off, cap', e1, hc, hm, hb, hcell⟩ := (HR.out.below hbel (Nat.le_refl _)).plain (by omega)
      injection e1 with e1 _ e3
      subst e1 e3
      have hck := hcell k hlt
      have HTk : Hid (xs.take (k + 1) = xs.take k ++ [xs.getD k 0]) := take_snocI hlt
      have hlen : (hd ++ xs.take k).length ≤ 20010 := by simp; omega
      generalize xs.getD k 0 = x at *
      have OW : Hid (wr.ownsRow w.heap.size 5 1 u4 (hd ++ xs.take k).length ((hd ++ xs.take k).map (Value.int .u8))) := hown
      clear hown
      have HA : Hid (hd ++ xs.take (k + 1) = (hd ++ xs.take k) ++ [x]) := by show _ = _; rw [HTk.out]; simp
      clear HTk
      generalize hd ++ xs.take k = f at *
      clear hcell
      go_wp2_with (at_builtin; refine wpList_append_reads rfl _ _ rfl w.heap.size _ f rfl (OW.out.alloc _) _ [x] rfl (reads_block (xs := [x]) (heap_alloc_new _ _) (by simp [maxLen])) (by simp; omega) (by simp; omega) ?_)
      intro v2 w2 hown2 hbel2 _
      have B2 : Hid (Below w.heap.size w w2) := (hbel.alloc hs _).trans hbel2
      have O2 : Hid (w2.ownsRow w.heap.size 5 1 v2 (hd ++ xs.take (k + 1)).length ((hd ++ xs.take (k + 1)).map (Value.int .u8))) := by show World.ownsRow _ _ _ _ _ _ _; rw [HA.out]; simpa using hown2
      clear hown2 hbel2 hbel
      go_wp2
      go_roundw
      case rel => exact ⟨k + 1, by omega, by go_num, O2.out, B2.out⟩
      case measure => simp [intOf]; omega
    · have ek : xs.take k = xs := List.take_of_length_le (by omega)
      rw [ek] at hown
      clear ek
      have O2 : Hid (wr.ownsRow w.heap.size 5 1 u4 (hd ++ xs).length ((hd ++ xs).map (Value.int .u8))) := hown
      have B2 : Hid (Below w.heap.size w wr) := hbel
      clear hown hbel
      have hll : (hd ++ xs).length ≤ 20010 := by simp; omega
      generalize hd ++ xs = f at *
      go_wp2_with fail
      refine (summed_any _ f _ (reads_own O2.out) HB.out).mono ?_
      rintro e w3 ⟨rfl, rfl⟩
      have hc4 : (four (crc f)).length = 4 := rfl
      have R4 : Hid (Reads .u8 (w3.alloc (.cells ((four (crc f)).map (Value.int .u8)).toArray 5)) (.slice (some ⟨w3.heap.size, 0, none⟩) 4 4) (four (crc f))) := reads_block (heap_alloc_new _ _) (by simp [hc4, maxLen])
      have O5 : Hid ((w3.alloc (.cells ((four (crc f)).map (Value.int .u8)).toArray 5)).ownsRow w.heap.size 5 1 u4 f.length (f.map (Value.int .u8))) := O2.out.alloc _
      have B5 : Hid (Below w.heap.size w (w3.alloc (.cells ((four (crc f)).map (Value.int .u8)).toArray 5))) := B2.out.alloc hs _
      simp only [four, List.map_cons, List.map_nil] at R4 O5 B5
      go_wp2_with (at_builtin; refine wpList_append_reads rfl _ _ rfl w.heap.size _ f rfl O5.out _ (four (crc f)) rfl R4.out (by simp [hc4]; omega) (by simp; omega) ?_)
      intro v6 w6 hown6 hbel6 _
      have O6 : Hid (w6.ownsRow w.heap.size 5 1 v6 (wrap xs).length ((wrap xs).map (Value.int .u8))) := by show World.ownsRow _ _ _ _ _ _ _; rw [HS.out]; simpa [hc4] using hown6
      have B6 : Hid (Below w.heap.size w w6) := B5.out.trans hbel6
      clear hown6 hbel6
      go_wp2
      go_ret2
      exact ⟨v6, rfl, O6.out, B6.out⟩

theorem wrapped_over (a : Option Addr) (n cap : Nat) (w : World) (hl : 20000 < n) :
    Calls Tryd.prog 66 #[.slice a n cap] w fun e w' => e = .returned (.tuple #[.slice none 0 0, .int .i64 1]) ∧ w' = w := by
  go_enter Tryd.func66, Tryd.ntmps66
  go_wp2_with fail
  go_ret2
  exact ⟨rfl, rfl⟩
end Go.Proofs.YthakibcfmbkpkaaDoor

namespace Go.Proofs.YthakibcfmbkpkaaDoor
set_option maxRecDepth 100000
open Go.ChangeShapes Go.WideShapes Go.ChangeAt Go.RowKit

theorem own_setN {w : World} {base g n cap j : Nat} {xs : List Int} {x : Int} (h : w.ownsRow base 3 1 (.slice (some ⟨g, 0, none⟩) n cap) n (xs.flatMap encI)) : (w.setCell ⟨g, j, none⟩ (.int .i64 x)).ownsRow base 3 1 (.slice (some ⟨g, 0, none⟩) n cap) n ((xs.set j x).flatMap encI) := by
  have := own_setRow (j := j) (x := .int .i64 x) h
  rw [flatI] at this ⊢
  rwa [List.map_set]
theorem own_atN {w : World} {base g n cap : Nat} {xs : List Int} (h : w.ownsRow base 3 1 (.slice (some ⟨g, 0, none⟩) n cap) n (xs.flatMap encI)) {i : Nat} {x : Int} (hx : xs[i]? = some x) : w.cell? ⟨g, i, none⟩ = some (.int .i64 x) := by
  have := h.cells rfl i (.int .i64 x) (by rw [flatI, List.getElem?_map, hx]; rfl)
  rwa [addr_add] at this
end Go.Proofs.YthakibcfmbkpkaaDoor

namespace Go.Proofs.YthakibcfmbkpkaaDoor
set_option maxRecDepth 100000
open Go.ChangeShapes Go.WideShapes Go.ChangeAt Go.RowKit

set_option maxHeartbeats 8000000 in
set_option maxRecDepth 100000 in
theorem savedBytes_any (s : SvS) (vv vm : Value) (w : World) (hv : MlR w vv s.vals) (hm : MlR w vm s.mail) :
    Calls Tryd.prog 49 #[.agg #[.int .i64 s.step, .int .i64 s.phase, .bool s.fresh, vv, vm]] w (BytP2 w (encS s)) := by
  have HV : Hid (MlR w vv s.vals) := hv
  have HM : Hid (MlR w vm s.mail) := hm
  have CM : Hid (∀ X, MlR X vv s.vals → MlR X vm s.mail → Calls Tryd.prog 67 #[.agg #[.int .i64 s.step, .int .i64 s.phase, .bool s.fresh, vv, vm]] X fun e w' => e = .returned (.bool (svMay s)) ∧ Below X.heap.size X w') := fun X h1 h2 => savedMay_any s vv vm X h1 h2
  obtain ⟨va, vc, rfl, hvc, hvm, _, _⟩ := hv
  obtain ⟨ma, mc, rfl, hmc, hmm, _, _⟩ := hm
  unfold maxLen at hvm hmm
  have EN : Hid (svMay s = false → encS s = ([], 9)) := encS_no
  have EB : Hid (svMay s = true → ¬ (bytN (numsS s)).length ≤ 20000 → encS s = ([], 1)) := encS_big
  have EY : Hid (svMay s = true → (bytN (numsS s)).length ≤ 20000 → encS s = (wrap (bytN (numsS s)), 0)) := encS_yes
  have NI : Hid (svMay s = true → ∀ n ∈ numsS s, 0 ≤ n ∧ n ≤ 4398046511105) := numsS_in
  have BY : Hid (svMay s = true → ∀ x ∈ bytN (numsS s), 0 ≤ x ∧ x ≤ 255) := fun h => bytN_bytes (fun n hn => ⟨(numsS_in h n hn).1, by have := (numsS_in h n hn).2; omega⟩)
  have NB : Hid (svMay s = true → s.vals.length ≤ 200 ∧ s.mail.length ≤ 5000 ∧ (∀ x ∈ s.vals, -1 ≤ x.1 ∧ x.1 ≤ 4398046511104 ∧ -1 ≤ x.2 ∧ x.2 < 200)) := fun h => by
    obtain ⟨⟨h1, h2, h3⟩, h4, h5, h6, _, h7⟩ := svMay_iff.1 h
    exact ⟨h4, h6, fun x hx => valS_iff.1 (valA_iff.1 h5 x hx)⟩
  have NE : Hid (numsS s = (([s.step, s.phase, if s.fresh then 1 else 0, (s.vals.length : Int)] ++ pairN 1 s.vals) ++ [(s.mail.length : Int)]) ++ pairN 0 s.mail) := by
    show _ = _
    unfold numsS
    rw [List.append_assoc, List.append_assoc]
  have NL : Hid ((numsS s).length = 5 + 2 * s.vals.length + 2 * s.mail.length) := numsS_len s
  generalize encS s = R at *
  generalize svMay s = r at *
  generalize numsS s = NS at *
  obtain ⟨st, ph, fr, vs, ms⟩ := s
  simp only at HV HM CM hvc hvm hmc hmm NB NE NL ⊢
  have X0 : BX 34 (w.alloc (.cells #[.int .i64 st, .int .i64 ph, .bool fr, .slice va vs.length vc, .slice ma ms.length mc] 34)) w.heap.size #[.int .i64 st, .int .i64 ph, .bool fr, .slice va vs.length vc, .slice ma ms.length mc] := BX.new _ _ _
  have B0 : Below w.heap.size w (w.alloc (.cells #[.int .i64 st, .int .i64 ph, .bool fr, .slice va vs.length vc, .slice ma ms.length mc] 34)) := below_alloc _ _
  go_enter Tryd.func49, Tryd.ntmps49
  go_upto_region 1 with fail
  generalize w.alloc (.cells #[.int .i64 st, .int .i64 ph, .bool fr, .slice va vs.length vc, .slice ma ms.length mc] 34) = W0 at *
  have HK0 : Hid (∀ X, Below W0.heap.size W0 X → BX 34 X w.heap.size #[.int .i64 st, .int .i64 ph, .bool fr, .slice va vs.length vc, .slice ma ms.length mc] ∧ Below w.heap.size w X ∧ MlR X (.slice va vs.length vc) vs ∧ MlR X (.slice ma ms.length mc) ms) := fun X hX => ⟨X0.below hX X0.lt, B0.trans (hX.mono B0.size), HV.out.below (B0.trans (hX.mono B0.size)) (Nat.le_refl _), HM.out.below (B0.trans (hX.mono B0.size)) (Nat.le_refl _)⟩
  have A0 : Hid (Below W0.heap.size W0 W0) := Below.refl _ _
  obtain ⟨c0, c1, c2, c3, c4⟩ := X0.all5
  clear X0 B0 HV HM
  go_wp2_with fail
  refine (CM.out _ (HK0.out _ A0.out).2.2.1 (HK0.out _ A0.out).2.2.2).mono ?_
  rintro e W1 ⟨rfl, hb1⟩
  have A1 : Hid (Below W0.heap.size W0 W1) := hb1
  obtain ⟨Q1, bw1, _, _⟩ := HK0.out _ hb1
  have BW1 : Hid (Below w.heap.size w W1) := bw1
  clear c0 c1 c2 c3 c4 hb1 bw1 CM
  obtain ⟨c0, c1, c2, c3, c4⟩ := Q1.all5
  clear Q1
  cases r
  · have e := EN.out rfl
    subst e
    have HP : Hid (BytP2 w ([], 9) (.returned (.tuple #[.slice none 0 0, .int .i64 9])) W1) := BytP2.no BW1.out
    clear EN EB EY NI NB NE NL BY
    generalize BytP2 w ([], 9) = P at *
    go_wp2_with fail
    exact HP.out
  · obtain ⟨hvl, hml, hvb⟩ := NB.out rfl
    have HVB : Hid (∀ x ∈ vs, -1 ≤ x.1 ∧ x.1 ≤ 4398046511104 ∧ -1 ≤ x.2 ∧ x.2 < 200) := hvb
    have EB2 : Hid (¬ (bytN NS).length ≤ 20000 → R = ([], 1)) := EB.out rfl
    have EY2 : Hid ((bytN NS).length ≤ 20000 → R = (wrap (bytN NS), 0)) := EY.out rfl
    have HNI : Hid (∀ n ∈ NS, 0 ≤ n ∧ n ≤ 4398046511105) := NI.out rfl
    have HNB : Hid (∀ x ∈ bytN NS, 0 ≤ x ∧ x ≤ 255) := BY.out rfl
    have HNL : Hid (NS.length ≤ 10405) := by have := NL.out; show _ ≤ _; omega
    clear hvb EN EB EY NI NB NL BY
    have HK : Hid (∀ X, Below W1.heap.size W1 X → BX 34 X w.heap.size #[.int .i64 st, .int .i64 ph, .bool fr, .slice va vs.length vc, .slice ma ms.length mc] ∧ Below w.heap.size w X ∧ MlR X (.slice va vs.length vc) vs ∧ MlR X (.slice ma ms.length mc) ms) := fun X hX => HK0.out X (A1.out.trans (hX.mono A1.out.size))
    have hqw := BW1.out.size
    clear HK0 A0 A1 BW1
    have W2 : Hid ((W1.alloc (.cells #[.int .i64 st, .int .i64 ph, .int .i64 0, .int .i64 (vs.length : Int)] 3)).ownsRow W1.heap.size 3 1 (.slice (some ⟨W1.heap.size, 0, none⟩) 4 4) ([st, ph, 0, (vs.length : Int)] : List Int).length (([st, ph, 0, (vs.length : Int)] : List Int).flatMap encI) ∧ Below W1.heap.size W1 (W1.alloc (.cells #[.int .i64 st, .int .i64 ph, .int .i64 0, .int .i64 (vs.length : Int)] 3)) ∧ (W1.alloc (.cells #[.int .i64 st, .int .i64 ph, .int .i64 0, .int .i64 (vs.length : Int)] 3)).heap.size = W1.heap.size + 1) := ⟨own_lit4 W1 _ (Nat.le_refl _) _ _ _ _, below_alloc _ _, by simp⟩
    go_upto_region 4 with fail
    generalize W1.alloc (.cells #[.int .i64 st, .int .i64 ph, .int .i64 0, .int .i64 (vs.length : Int)] 3) = W3 at *
    obtain ⟨o3', b3', hsz3⟩ := W2.out
    have HSE : Hid (W3.heap.size = W1.heap.size + 1) := hsz3
    generalize hB : W1.heap.size = B at *
    have HBE : Hid (W1.heap.size = B) := hB
    have O3 : Hid (W3.ownsRow B 3 1 (.slice (some ⟨B, 0, none⟩) 4 4) ([st, ph, 0, (vs.length : Int)] : List Int).length (([st, ph, 0, (vs.length : Int)] : List Int).flatMap encI)) := o3'
    have A3 : Hid (Below B W1 W3) := b3'
    obtain ⟨Q3, _, _, _⟩ := HK.out _ b3'
    clear c0 c1 c2 c3 c4 W2 o3' b3' hsz3 hB
    obtain ⟨c0, c1, c2, c3, c4⟩ := Q3.all5
    clear Q3
    obtain ⟨fz, hfz⟩ : ∃ z : Int, (if fr then (1 : Int) else 0) = z := ⟨_, rfl⟩
    have HFZ : Hid ((if fr then (1 : Int) else 0) = fz) := hfz
    rw [hfz] at NE
    clear hfz
    go_upto_if 23 with fail
    go_cut [] from 23 to 23 (fun wx => wx.ownsRow B 3 1 (.slice (some ⟨B, 0, none⟩) 4 4) ([st, ph, fz, (vs.length : Int)] : List Int).length (([st, ph, fz, (vs.length : Int)] : List Int).flatMap encI) ∧ Below B W1 wx)
    case first =>
      cases fr
      · have e : (0 : Int) = fz := by rw [← HFZ.out]; rfl
        subst e
        clear HFZ
        go_wp2_with fail
        go_meet
        case rel => exact ⟨O3.out, A3.out⟩
      · have e : (1 : Int) = fz := by rw [← HFZ.out]; rfl
        subst e
        have O4 : Hid ((W3.setCell ⟨B, 2, none⟩ (.int .i64 1)).ownsRow B 3 1 (.slice (some ⟨B, 0, none⟩) 4 4) ([st, ph, 1, (vs.length : Int)] : List Int).length (([st, ph, 1, (vs.length : Int)] : List Int).flatMap encI)) := own_setN (j := 2) (x := 1) (xs := [st, ph, 0, (vs.length : Int)]) O3.out
        have A4 : Hid (Below B W1 (W3.setCell ⟨B, 2, none⟩ (.int .i64 1))) := A3.out.setCell (p := ⟨B, 2, none⟩) (Nat.le_refl _) _
        have z2 : W3.cell? ⟨B, 2, none⟩ = some (.int .i64 0) := own_atN (xs := [st, ph, 0, (vs.length : Int)]) O3.out (i := 2) rfl
        have z3 := frozenK O3.out 2
        clear HFZ
        go_wp2_with fail
        go_meet
        case rel => exact ⟨O4.out, A4.out⟩
    case rest =>
    obtain ⟨hoc, hbc⟩ := hcut
    have OC : Hid (wc.ownsRow B 3 1 (.slice (some ⟨B, 0, none⟩) 4 4) ([st, ph, fz, (vs.length : Int)] : List Int).length (([st, ph, fz, (vs.length : Int)] : List Int).flatMap encI)) := hoc
    have AC : Hid (Below B W1 wc) := hbc
    have HZ0 : Hid ([st, ph, fz, (vs.length : Int)] ++ pairN 1 (vs.take 0) = [st, ph, fz, (vs.length : Int)]) := by show _ = _; simp [pairN]
    have HL4 : Hid (([st, ph, fz, (vs.length : Int)] : List Int).length = 4) := rfl
    clear hoc hbc O3 A3 HFZ
    generalize [st, ph, fz, (vs.length : Int)] = N0 at *
    go_wp2_with fail
    clear c0 c1 c2 c3 c4
    go_loopw [4, 5] (fun l i wr => ∃ k : Nat, k ≤ vs.length ∧ i = .int .i64 k ∧ (∃ a n c, l = .slice a n c) ∧ wr.ownsRow B 3 1 l (N0 ++ pairN 1 (vs.take k)).length ((N0 ++ pairN 1 (vs.take k)).flatMap encI) ∧ Below B W1 wr) (fun _ i _ => vs.length - (intOf i).toNat)
    case atStart => exact ⟨0, by omega, rfl, ⟨_, _, _, rfl⟩, by rw [HZ0.out]; exact OC.out, AC.out⟩
    case round =>
      clear OC AC HZ0
      obtain ⟨k, hk, rfl, ⟨la, ln, lc, rfl⟩, how, hbel⟩ := hrel
      have OW : Hid (wr.ownsRow B 3 1 (.slice la ln lc) (N0 ++ pairN 1 (vs.take k)).length ((N0 ++ pairN 1 (vs.take k)).flatMap encI)) := how
      have AB : Hid (Below B W1 wr) := hbel
      have hsr : B ≤ wr.heap.size := by have := hbel.size; have := HBE.out; omega
      have hll : (N0 ++ pairN 1 (vs.take k)).length ≤ 500 := by have := HL4.out; rw [List.length_append, pairN_len, List.length_take]; omega
      obtain ⟨Q7, _, MV, _⟩ := HK.out _ hbel
      clear how hbel
      by_cases hlt : k < vs.length
      · obtain ⟨bv, ov, cv', e5, _, _, ltv, hvv⟩ := MlR.at (HK.out W1 (Below.refl _ _)).2.2.1 (by omega)
        injection e5 with e5 _ e6
        subst e5 e6
        obtain ⟨x, hx⟩ := getX hlt
        obtain ⟨y0, y1⟩ := hvv k x hx
        obtain ⟨g1, g2, g3, g4⟩ := HVB.out x (List.mem_of_getElem? hx)
        have HT : Hid (N0 ++ pairN 1 (vs.take (k + 1)) = (N0 ++ pairN 1 (vs.take k)) ++ [x.1 + 1, x.2 + 1]) := by show _ = _; rw [take_snoc hx, pairN_app, pairN_one, List.append_assoc]
        have p0 : (0 : Int) ≤ (k : Int) := by omega
        have p1 : (k : Int) < (vs.length : Int) := by omega
        have w1 : IntKind.i64.wrap (x.1 + 1) = x.1 + 1 := wrap_id64 (by omega) (by omega)
        have w2 : IntKind.i64.wrap (x.2 + 1) = x.2 + 1 := wrap_id64 (by omega) (by omega)
        obtain ⟨x1, x2⟩ := x
        simp only at y0 y1 g1 g2 g3 g4 HT w1 w2
        generalize N0 ++ pairN 1 (vs.take k) = M at *
        have HSB : Hid (∀ V, Below B W1 V → (V.cell? ⟨w.heap.size, 3, none⟩ = some (.slice (some ⟨bv, ov, none⟩) vs.length vc) ∧ V.cell? ⟨bv, ov + k * 2, none⟩ = some (.int .i64 x1) ∧ V.cell? ⟨bv, ov + k * 2 + 1, none⟩ = some (.int .i64 x2))) := fun V hV => ⟨(HK.out V hV).1.all5.2.2.2.1, (hV.cell (p := ⟨bv, ov + k * 2, none⟩) (by have := HBE.out; show bv < B; omega)).trans y0, (hV.cell (p := ⟨bv, ov + k * 2 + 1, none⟩) (by have := HBE.out; show bv < B; omega)).trans y1⟩
        have HS : Hid (∀ V, Below wr.heap.size wr V → (V.cell? ⟨w.heap.size, 3, none⟩ = some (.slice (some ⟨bv, ov, none⟩) vs.length vc) ∧ V.cell? ⟨bv, ov + k * 2, none⟩ = some (.int .i64 x1) ∧ V.cell? ⟨bv, ov + k * 2 + 1, none⟩ = some (.int .i64 x2))) := fun V hV => HSB.out V (AB.out.trans (hV.mono hsr))
        obtain ⟨c0, c1, c2, c3, c4⟩ := Q7.all5
        clear hvv hx Q7 MV y0 y1
        go_upto_region 9 with fail
        clear c0 c1 c2 c3 c4
        have bd : Below wr.heap.size wr wr.drew := (Below.refl _ _).drew
        have HS0 : Hid (wr.drew.cell? ⟨w.heap.size, 3, none⟩ = some (.slice (some ⟨bv, ov, none⟩) vs.length vc) ∧ wr.drew.cell? ⟨bv, ov + k * 2, none⟩ = some (.int .i64 x1) ∧ wr.drew.cell? ⟨bv, ov + k * 2 + 1, none⟩ = some (.int .i64 x2)) := HS.out _ bd
        have ba : Below wr.heap.size wr (wr.drew.alloc (.cells #[.int .i64 (x1 + 1), .int .i64 (x2 + 1)] 3)) := bd.alloc bd.size _
        have HSA : Hid ((wr.drew.alloc (.cells #[.int .i64 (x1 + 1), .int .i64 (x2 + 1)] 3)).cell? ⟨w.heap.size, 3, none⟩ = some (.slice (some ⟨bv, ov, none⟩) vs.length vc) ∧ (wr.drew.alloc (.cells #[.int .i64 (x1 + 1), .int .i64 (x2 + 1)] 3)).cell? ⟨bv, ov + k * 2, none⟩ = some (.int .i64 x1) ∧ (wr.drew.alloc (.cells #[.int .i64 (x1 + 1), .int .i64 (x2 + 1)] 3)).cell? ⟨bv, ov + k * 2 + 1, none⟩ = some (.int .i64 x2)) := HS.out _ ba
        have owA : (wr.drew.alloc (.cells #[.int .i64 (x1 + 1), .int .i64 (x2 + 1)] 3)).ownsRow B 3 1 (.slice la ln lc) M.length (M.flatMap encI) := own_below OW.out ba (Nat.le_refl _)
        obtain ⟨v8, w8, hrun8, hown8, hg8⟩ := run_append_rowK kI (w := wr.drew.alloc (.cells #[.int .i64 (x1 + 1), .int .i64 (x2 + 1)] 3)) 69 B (.slice la ln lc) M owA (.slice (some ⟨wr.heap.size, 0, none⟩) 2 2) [x1 + 1, x2 + 1] (RowK.own encI_len (own_lit2 wr.drew B (by show B ≤ wr.heap.size; omega) (x1 + 1) (x2 + 1))) (by show (M.length + 2) * 8 ≤ _; omega) (by unfold maxLen; simp only [List.length_cons, List.length_nil]; omega) (by have := ba.size; omega)
        have b8 : Below B W1 w8 := (AB.out.trans (ba.mono (by omega))).grown hg8 (by have := ba.size; omega) (fun g hg => (own_ge owA hg).1)
        have HS8 : Hid (w8.cell? ⟨w.heap.size, 3, none⟩ = some (.slice (some ⟨bv, ov, none⟩) vs.length vc) ∧ w8.cell? ⟨bv, ov + k * 2, none⟩ = some (.int .i64 x1) ∧ w8.cell? ⟨bv, ov + k * 2 + 1, none⟩ = some (.int .i64 x2)) := HSB.out _ b8
        refine wp_region_held (S := fun V => (V.cell? ⟨w.heap.size, 3, none⟩ = some (.slice (some ⟨bv, ov, none⟩) vs.length vc) ∧ V.cell? ⟨bv, ov + k * 2, none⟩ = some (.int .i64 x1) ∧ V.cell? ⟨bv, ov + k * 2 + 1, none⟩ = some (.int .i64 x2))) (by kernel_rfl) ?_
        simp only [List.size_toArray, List.length_cons, List.length_nil, Nat.reduceAdd]
        refine takeH (i := 0) (v := .slice la ln lc) (d := 33) rfl rfl (by kernel_rfl) (by kernel_rfl) (by kernel_rfl) (fun _ _ _ h => h) (by rfl) (fun V hV => by obtain ⟨v1, v2, v3⟩ := hV; go_simp) HS0.out ?_
        simp only [Act.put, List.setIfInBounds_toArray, List.set_cons_zero, List.set_cons_succ]
        refine takeH (i := 1) (v := .pointer (some ⟨w.heap.size, 3, none⟩)) (d := 34) rfl rfl (by kernel_rfl) (by kernel_rfl) (by kernel_rfl) (fun _ _ _ h => h) (by rfl) (fun V hV => by obtain ⟨v1, v2, v3⟩ := hV; go_simp) HS0.out ?_
        simp only [Act.put, List.setIfInBounds_toArray, List.set_cons_zero, List.set_cons_succ]
        refine takeH (i := 2) (v := .slice (some ⟨bv, ov, none⟩) vs.length vc) (d := 35) rfl rfl (by kernel_rfl) (by kernel_rfl) (by kernel_rfl) (fun _ _ _ h => h) (by rfl) (fun V hV => by obtain ⟨v1, v2, v3⟩ := hV; go_simp) HS0.out ?_
        simp only [Act.put, List.setIfInBounds_toArray, List.set_cons_zero, List.set_cons_succ]
        refine takeH (i := 3) (v := .int .i64 (k : Int)) (d := 36) rfl rfl (by kernel_rfl) (by kernel_rfl) (by kernel_rfl) (fun _ _ _ h => h) (by rfl) (fun V hV => by obtain ⟨v1, v2, v3⟩ := hV; go_simp) HS0.out ?_
        simp only [Act.put, List.setIfInBounds_toArray, List.set_cons_zero, List.set_cons_succ]
        refine takeH (i := 4) (v := .pointer (some ⟨bv, ov + k * 2, none⟩)) (d := 37) rfl rfl (by kernel_rfl) (by kernel_rfl) (by kernel_rfl) (fun _ _ _ h => h) (by rfl) (fun V hV => by obtain ⟨v1, v2, v3⟩ := hV; go_simp) HS0.out ?_
        simp only [Act.put, List.setIfInBounds_toArray, List.set_cons_zero, List.set_cons_succ]
        refine takeH (i := 5) (v := .pointer (some ⟨bv, ov + k * 2, none⟩)) (d := 38) rfl rfl (by kernel_rfl) (by kernel_rfl) (by kernel_rfl) (fun _ _ _ h => h) (by rfl) (fun V hV => by obtain ⟨v1, v2, v3⟩ := hV; go_simp) HS0.out ?_
        simp only [Act.put, List.setIfInBounds_toArray, List.set_cons_zero, List.set_cons_succ]
        refine takeH (i := 6) (v := .int .i64 x1) (d := 39) rfl rfl (by kernel_rfl) (by kernel_rfl) (by kernel_rfl) (fun _ _ _ h => h) (by rfl) (fun V hV => by obtain ⟨v1, v2, v3⟩ := hV; go_simp) HS0.out ?_
        simp only [Act.put, List.setIfInBounds_toArray, List.set_cons_zero, List.set_cons_succ]
        refine takeH (i := 7) (v := .int .i64 (x1 + 1)) (d := 40) rfl rfl (by kernel_rfl) (by kernel_rfl) (by kernel_rfl) (fun _ _ _ h => h) (by rfl) (fun V hV => by obtain ⟨v1, v2, v3⟩ := hV; go_simp) HS0.out ?_
        simp only [Act.put, List.setIfInBounds_toArray, List.set_cons_zero, List.set_cons_succ]
        refine takeH (i := 8) (v := .pointer (some ⟨w.heap.size, 3, none⟩)) (d := 41) rfl rfl (by kernel_rfl) (by kernel_rfl) (by kernel_rfl) (fun _ _ _ h => h) (by rfl) (fun V hV => by obtain ⟨v1, v2, v3⟩ := hV; go_simp) HS0.out ?_
        simp only [Act.put, List.setIfInBounds_toArray, List.set_cons_zero, List.set_cons_succ]
        refine takeH (i := 9) (v := .slice (some ⟨bv, ov, none⟩) vs.length vc) (d := 42) rfl rfl (by kernel_rfl) (by kernel_rfl) (by kernel_rfl) (fun _ _ _ h => h) (by rfl) (fun V hV => by obtain ⟨v1, v2, v3⟩ := hV; go_simp) HS0.out ?_
        simp only [Act.put, List.setIfInBounds_toArray, List.set_cons_zero, List.set_cons_succ]
        refine takeH (i := 10) (v := .int .i64 (k : Int)) (d := 43) rfl rfl (by kernel_rfl) (by kernel_rfl) (by kernel_rfl) (fun _ _ _ h => h) (by rfl) (fun V hV => by obtain ⟨v1, v2, v3⟩ := hV; go_simp) HS0.out ?_
        simp only [Act.put, List.setIfInBounds_toArray, List.set_cons_zero, List.set_cons_succ]
        refine takeH (i := 11) (v := .pointer (some ⟨bv, ov + k * 2, none⟩)) (d := 44) rfl rfl (by kernel_rfl) (by kernel_rfl) (by kernel_rfl) (fun _ _ _ h => h) (by rfl) (fun V hV => by obtain ⟨v1, v2, v3⟩ := hV; go_simp) HS0.out ?_
        simp only [Act.put, List.setIfInBounds_toArray, List.set_cons_zero, List.set_cons_succ]
        refine takeH (i := 12) (v := .pointer (some ⟨bv, ov + k * 2 + 1, none⟩)) (d := 45) rfl rfl (by kernel_rfl) (by kernel_rfl) (by kernel_rfl) (fun _ _ _ h => h) (by rfl) (fun V hV => by obtain ⟨v1, v2, v3⟩ := hV; go_simp) HS0.out ?_
        simp only [Act.put, List.setIfInBounds_toArray, List.set_cons_zero, List.set_cons_succ]
        refine takeH (i := 13) (v := .int .i64 x2) (d := 46) rfl rfl (by kernel_rfl) (by kernel_rfl) (by kernel_rfl) (fun _ _ _ h => h) (by rfl) (fun V hV => by obtain ⟨v1, v2, v3⟩ := hV; go_simp) HS0.out ?_
        simp only [Act.put, List.setIfInBounds_toArray, List.set_cons_zero, List.set_cons_succ]
        refine takeH (i := 14) (v := .int .i64 (x2 + 1)) (d := 47) rfl rfl (by kernel_rfl) (by kernel_rfl) (by kernel_rfl) (fun _ _ _ h => h) (by rfl) (fun V hV => by obtain ⟨v1, v2, v3⟩ := hV; go_simp) HS0.out ?_
        simp only [Act.put, List.setIfInBounds_toArray, List.set_cons_zero, List.set_cons_succ]
        refine oneH (i := 15) rfl (by kernel_rfl) rfl (op_run (d := 48) (v' := .slice (some ⟨wr.heap.size, 0, none⟩) 2 2) (w' := wr.drew.alloc (.cells #[.int .i64 (x1 + 1), .int .i64 (x2 + 1)] 3)) rfl (by go_simp) ⟨HSA.out, ?_⟩)
        simp only [Act.put, List.setIfInBounds_toArray, List.set_cons_zero, List.set_cons_succ]
        refine oneH (i := 16) rfl (by kernel_rfl) rfl (call_append (d := 49) (s := .tmp 33) (x := .tmp 48) (t := 69) rfl rfl rfl rfl hrun8 ⟨HS8.out, ?_⟩)
        simp only [Act.put, List.setIfInBounds_toArray, List.set_cons_zero, List.set_cons_succ]
        obtain ⟨ya, yn, yc, rfl⟩ : ∃ a n c, v8 = .slice a n c := by
          obtain ⟨p1, p2, e⟩ := (RowK.own encI_len hown8 : InR w8 v8 (M ++ [x1 + 1, x2 + 1])).shape
          exact ⟨_, _, _, e⟩
        refine takeH (i := 17) (v := .slice ya yn yc) (d := 4) rfl rfl (by kernel_rfl) (by kernel_rfl) (by kernel_rfl) (fun _ _ _ h => h) (by rfl) (fun V hV => by obtain ⟨v1, v2, v3⟩ := hV; go_simp) HS8.out ?_
        simp only [Act.put, List.setIfInBounds_toArray, List.set_cons_zero, List.set_cons_succ]
        refine wpAnyH_done (by kernel_rfl) ?_ _
        have NO : Hid (w8.ownsRow B 3 1 (.slice ya yn yc) (M ++ [x1 + 1, x2 + 1]).length ((M ++ [x1 + 1, x2 + 1]).flatMap encI)) := hown8
        have NA : Hid (Below B W1 w8) := b8
        clear HS0 HSA HS8 HS owA hrun8 hown8 hg8 b8 ba bd OW AB
        go_wp2_with fail
        go_roundw
        case rel => exact ⟨k + 1, by omega, by go_num, ⟨_, _, _, rfl⟩, by rw [HT.out]; exact NO.out, NA.out⟩
        case measure => simp [intOf]; omega
      · have ek : vs.take k = vs := List.take_of_length_le (by omega)
        rw [ek] at OW hll
        obtain ⟨c0, c1, c2, c3, c4⟩ := Q7.all5
        generalize N0 ++ pairN 1 vs = N1 at *
        obtain ⟨V7, hV7⟩ : ∃ V, V = wr := ⟨wr, rfl⟩
        rw [← hV7] at OW AB hsr c0 c1 c2 c3 c4 ⊢
        clear ek Q7 MV hV7
        have owA : Hid ((V7.alloc (.cells #[.int .i64 (ms.length : Int)] 3)).ownsRow B 3 1 (.slice la ln lc) N1.length (N1.flatMap encI)) := OW.out.alloc _
        have RL : Hid (InR (V7.alloc (.cells #[.int .i64 (ms.length : Int)] 3)) (.slice (some ⟨V7.heap.size, 0, none⟩) 1 1) [(ms.length : Int)]) := RowK.own encI_len (own_lit1 V7 B hsr _)
        have baA : Hid (Below B W1 (V7.alloc (.cells #[.int .i64 (ms.length : Int)] 3)) ∧ B ≤ (V7.alloc (.cells #[.int .i64 (ms.length : Int)] 3)).heap.size) := ⟨AB.out.alloc hsr _, by simp; omega⟩
        go_wp2_with (at_builtin; refine wpList_append_rowK kI rfl _ _ rfl B _ N1 rfl owA.out _ [(ms.length : Int)] rfl RL.out ?d1 ?d2 baA.out.2 ?_)
        case d1 => show (N1.length + 1) * 8 ≤ _; omega
        case d2 => unfold maxLen; simp only [List.length_cons, List.length_nil]; omega
        intro v8 w8 hown8' hb8 _
        have hown8 : w8.ownsRow B 3 1 v8 (N1 ++ [(ms.length : Int)]).length ((N1 ++ [(ms.length : Int)]).flatMap encI) := by rw [flat_snoc, List.length_append]; exact hown8'
        clear hown8'
        obtain ⟨ya, yn, yc, rfl⟩ : ∃ a n c, v8 = .slice a n c := by
          obtain ⟨p1, p2, e⟩ := (RowK.own encI_len hown8 : InR w8 v8 (N1 ++ [(ms.length : Int)])).shape
          exact ⟨_, _, _, e⟩
        have O8 : Hid (w8.ownsRow B 3 1 (.slice ya yn yc) (N1 ++ [(ms.length : Int)]).length ((N1 ++ [(ms.length : Int)]).flatMap encI)) := hown8
        have A8 : Hid (Below B W1 w8) := baA.out.1.trans hb8
        have HL2 : Hid ((N1 ++ [(ms.length : Int)]).length ≤ 501) := by show _ ≤ _; rw [List.length_append]; simp only [List.length_cons, List.length_nil]; omega
        have HZ2 : Hid ((N1 ++ [(ms.length : Int)]) ++ pairN 0 (ms.take 0) = N1 ++ [(ms.length : Int)]) := by show _ = _; simp [pairN]
        clear hown8 hb8 owA RL baA OW AB c0 c1 c2 c3 c4
        obtain ⟨Q8, _, _, _⟩ := HK.out _ A8.out
        obtain ⟨c0, c1, c2, c3, c4⟩ := Q8.all5
        clear Q8
        generalize N1 ++ [(ms.length : Int)] = N2 at *
        go_wp2_with fail
        clear c0 c1 c2 c3 c4
        go_loopw [4, 6] (fun l i wr => ∃ k : Nat, k ≤ ms.length ∧ i = .int .i64 k ∧ (∃ a n c, l = .slice a n c) ∧ wr.ownsRow B 3 1 l (N2 ++ pairN 0 (ms.take k)).length ((N2 ++ pairN 0 (ms.take k)).flatMap encI) ∧ Below B W1 wr) (fun _ i _ => ms.length - (intOf i).toNat)
        case atStart => exact ⟨0, by omega, rfl, ⟨_, _, _, rfl⟩, by rw [HZ2.out]; exact O8.out, A8.out⟩
        case round =>
          clear O8 A8 HZ2 hsr hll
          obtain ⟨k, hk, rfl, ⟨la, ln, lc, rfl⟩, how, hbel⟩ := hrel
          have OW : Hid (wr.ownsRow B 3 1 (.slice la ln lc) (N2 ++ pairN 0 (ms.take k)).length ((N2 ++ pairN 0 (ms.take k)).flatMap encI)) := how
          have AB : Hid (Below B W1 wr) := hbel
          have hsr : B ≤ wr.heap.size := by have := hbel.size; have := HBE.out; omega
          have hll : (N2 ++ pairN 0 (ms.take k)).length ≤ 11000 := by have := HL2.out; rw [List.length_append, pairN_len, List.length_take]; omega
          obtain ⟨Q7, BW7, _, MM⟩ := HK.out _ hbel
          clear how hbel
          by_cases hlt : k < ms.length
          · obtain ⟨bv, ov, cv', e5, _, _, ltv, hvv⟩ := MlR.at (HK.out W1 (Below.refl _ _)).2.2.2 (by omega)
            injection e5 with e5 _ e6
            subst e5 e6
            obtain ⟨x, hx⟩ := getX hlt
            obtain ⟨y0, y1⟩ := hvv k x hx
            have HT : Hid (N2 ++ pairN 0 (ms.take (k + 1)) = (N2 ++ pairN 0 (ms.take k)) ++ [x.1, x.2]) := by show _ = _; rw [take_snoc hx, pairN_app, pairN_one, List.append_assoc, Int.add_zero, Int.add_zero]
            have p0 : (0 : Int) ≤ (k : Int) := by omega
            have p1 : (k : Int) < (ms.length : Int) := by omega
            obtain ⟨x1, x2⟩ := x
            simp only at y0 y1 HT
            generalize N2 ++ pairN 0 (ms.take k) = M at *
            have HSB : Hid (∀ V, Below B W1 V → (V.cell? ⟨w.heap.size, 4, none⟩ = some (.slice (some ⟨bv, ov, none⟩) ms.length mc) ∧ V.cell? ⟨bv, ov + k * 2, none⟩ = some (.int .i64 x1) ∧ V.cell? ⟨bv, ov + k * 2 + 1, none⟩ = some (.int .i64 x2))) := fun V hV => ⟨(HK.out V hV).1.all5.2.2.2.2, (hV.cell (p := ⟨bv, ov + k * 2, none⟩) (by have := HBE.out; show bv < B; omega)).trans y0, (hV.cell (p := ⟨bv, ov + k * 2 + 1, none⟩) (by have := HBE.out; show bv < B; omega)).trans y1⟩
            have HS : Hid (∀ V, Below wr.heap.size wr V → (V.cell? ⟨w.heap.size, 4, none⟩ = some (.slice (some ⟨bv, ov, none⟩) ms.length mc) ∧ V.cell? ⟨bv, ov + k * 2, none⟩ = some (.int .i64 x1) ∧ V.cell? ⟨bv, ov + k * 2 + 1, none⟩ = some (.int .i64 x2))) := fun V hV => HSB.out V (AB.out.trans (hV.mono hsr))
            obtain ⟨c0, c1, c2, c3, c4⟩ := Q7.all5
            clear hvv hx Q7 MM BW7 y0 y1
            go_upto_region 14 with fail
            clear c0 c1 c2 c3 c4
            have bd : Below wr.heap.size wr wr.drew := (Below.refl _ _).drew
            have HS0 : Hid (wr.drew.cell? ⟨w.heap.size, 4, none⟩ = some (.slice (some ⟨bv, ov, none⟩) ms.length mc) ∧ wr.drew.cell? ⟨bv, ov + k * 2, none⟩ = some (.int .i64 x1) ∧ wr.drew.cell? ⟨bv, ov + k * 2 + 1, none⟩ = some (.int .i64 x2)) := HS.out _ bd
            have ba : Below wr.heap.size wr (wr.drew.alloc (.cells #[.int .i64 (x1), .int .i64 (x2)] 3)) := bd.alloc bd.size _
            have HSA : Hid ((wr.drew.alloc (.cells #[.int .i64 (x1), .int .i64 (x2)] 3)).cell? ⟨w.heap.size, 4, none⟩ = some (.slice (some ⟨bv, ov, none⟩) ms.length mc) ∧ (wr.drew.alloc (.cells #[.int .i64 (x1), .int .i64 (x2)] 3)).cell? ⟨bv, ov + k * 2, none⟩ = some (.int .i64 x1) ∧ (wr.drew.alloc (.cells #[.int .i64 (x1), .int .i64 (x2)] 3)).cell? ⟨bv, ov + k * 2 + 1, none⟩ = some (.int .i64 x2)) := HS.out _ ba
            have owA : (wr.drew.alloc (.cells #[.int .i64 (x1), .int .i64 (x2)] 3)).ownsRow B 3 1 (.slice la ln lc) M.length (M.flatMap encI) := own_below OW.out ba (Nat.le_refl _)
            obtain ⟨v8, w8, hrun8, hown8, hg8⟩ := run_append_rowK kI (w := wr.drew.alloc (.cells #[.int .i64 (x1), .int .i64 (x2)] 3)) 69 B (.slice la ln lc) M owA (.slice (some ⟨wr.heap.size, 0, none⟩) 2 2) [x1, x2] (RowK.own encI_len (own_lit2 wr.drew B (by show B ≤ wr.heap.size; omega) (x1) (x2))) (by show (M.length + 2) * 8 ≤ _; omega) (by unfold maxLen; simp only [List.length_cons, List.length_nil]; omega) (by have := ba.size; omega)
            have b8 : Below B W1 w8 := (AB.out.trans (ba.mono (by omega))).grown hg8 (by have := ba.size; omega) (fun g hg => (own_ge owA hg).1)
            have HS8 : Hid (w8.cell? ⟨w.heap.size, 4, none⟩ = some (.slice (some ⟨bv, ov, none⟩) ms.length mc) ∧ w8.cell? ⟨bv, ov + k * 2, none⟩ = some (.int .i64 x1) ∧ w8.cell? ⟨bv, ov + k * 2 + 1, none⟩ = some (.int .i64 x2)) := HSB.out _ b8
            refine wp_region_held (S := fun V => (V.cell? ⟨w.heap.size, 4, none⟩ = some (.slice (some ⟨bv, ov, none⟩) ms.length mc) ∧ V.cell? ⟨bv, ov + k * 2, none⟩ = some (.int .i64 x1) ∧ V.cell? ⟨bv, ov + k * 2 + 1, none⟩ = some (.int .i64 x2))) (by kernel_rfl) ?_
            simp only [List.size_toArray, List.length_cons, List.length_nil, Nat.reduceAdd]
            refine takeH (i := 0) (v := .slice la ln lc) (d := 63) rfl rfl (by kernel_rfl) (by kernel_rfl) (by kernel_rfl) (fun _ _ _ h => h) (by rfl) (fun V hV => by obtain ⟨v1, v2, v3⟩ := hV; go_simp) HS0.out ?_
            simp only [Act.put, List.setIfInBounds_toArray, List.set_cons_zero, List.set_cons_succ]
            refine takeH (i := 1) (v := .pointer (some ⟨w.heap.size, 4, none⟩)) (d := 64) rfl rfl (by kernel_rfl) (by kernel_rfl) (by kernel_rfl) (fun _ _ _ h => h) (by rfl) (fun V hV => by obtain ⟨v1, v2, v3⟩ := hV; go_simp) HS0.out ?_
            simp only [Act.put, List.setIfInBounds_toArray, List.set_cons_zero, List.set_cons_succ]
            refine takeH (i := 2) (v := .slice (some ⟨bv, ov, none⟩) ms.length mc) (d := 65) rfl rfl (by kernel_rfl) (by kernel_rfl) (by kernel_rfl) (fun _ _ _ h => h) (by rfl) (fun V hV => by obtain ⟨v1, v2, v3⟩ := hV; go_simp) HS0.out ?_
            simp only [Act.put, List.setIfInBounds_toArray, List.set_cons_zero, List.set_cons_succ]
            refine takeH (i := 3) (v := .int .i64 (k : Int)) (d := 66) rfl rfl (by kernel_rfl) (by kernel_rfl) (by kernel_rfl) (fun _ _ _ h => h) (by rfl) (fun V hV => by obtain ⟨v1, v2, v3⟩ := hV; go_simp) HS0.out ?_
            simp only [Act.put, List.setIfInBounds_toArray, List.set_cons_zero, List.set_cons_succ]
            refine takeH (i := 4) (v := .pointer (some ⟨bv, ov + k * 2, none⟩)) (d := 67) rfl rfl (by kernel_rfl) (by kernel_rfl) (by kernel_rfl) (fun _ _ _ h => h) (by rfl) (fun V hV => by obtain ⟨v1, v2, v3⟩ := hV; go_simp) HS0.out ?_
            simp only [Act.put, List.setIfInBounds_toArray, List.set_cons_zero, List.set_cons_succ]
            refine takeH (i := 5) (v := .pointer (some ⟨bv, ov + k * 2, none⟩)) (d := 68) rfl rfl (by kernel_rfl) (by kernel_rfl) (by kernel_rfl) (fun _ _ _ h => h) (by rfl) (fun V hV => by obtain ⟨v1, v2, v3⟩ := hV; go_simp) HS0.out ?_
            simp only [Act.put, List.setIfInBounds_toArray, List.set_cons_zero, List.set_cons_succ]
            refine takeH (i := 6) (v := .int .i64 x1) (d := 69) rfl rfl (by kernel_rfl) (by kernel_rfl) (by kernel_rfl) (fun _ _ _ h => h) (by rfl) (fun V hV => by obtain ⟨v1, v2, v3⟩ := hV; go_simp) HS0.out ?_
            simp only [Act.put, List.setIfInBounds_toArray, List.set_cons_zero, List.set_cons_succ]
            refine takeH (i := 7) (v := .pointer (some ⟨w.heap.size, 4, none⟩)) (d := 70) rfl rfl (by kernel_rfl) (by kernel_rfl) (by kernel_rfl) (fun _ _ _ h => h) (by rfl) (fun V hV => by obtain ⟨v1, v2, v3⟩ := hV; go_simp) HS0.out ?_
            simp only [Act.put, List.setIfInBounds_toArray, List.set_cons_zero, List.set_cons_succ]
            refine takeH (i := 8) (v := .slice (some ⟨bv, ov, none⟩) ms.length mc) (d := 71) rfl rfl (by kernel_rfl) (by kernel_rfl) (by kernel_rfl) (fun _ _ _ h => h) (by rfl) (fun V hV => by obtain ⟨v1, v2, v3⟩ := hV; go_simp) HS0.out ?_
            simp only [Act.put, List.setIfInBounds_toArray, List.set_cons_zero, List.set_cons_succ]
            refine takeH (i := 9) (v := .int .i64 (k : Int)) (d := 72) rfl rfl (by kernel_rfl) (by kernel_rfl) (by kernel_rfl) (fun _ _ _ h => h) (by rfl) (fun V hV => by obtain ⟨v1, v2, v3⟩ := hV; go_simp) HS0.out ?_
            simp only [Act.put, List.setIfInBounds_toArray, List.set_cons_zero, List.set_cons_succ]
            refine takeH (i := 10) (v := .pointer (some ⟨bv, ov + k * 2, none⟩)) (d := 73) rfl rfl (by kernel_rfl) (by kernel_rfl) (by kernel_rfl) (fun _ _ _ h => h) (by rfl) (fun V hV => by obtain ⟨v1, v2, v3⟩ := hV; go_simp) HS0.out ?_
            simp only [Act.put, List.setIfInBounds_toArray, List.set_cons_zero, List.set_cons_succ]
            refine takeH (i := 11) (v := .pointer (some ⟨bv, ov + k * 2 + 1, none⟩)) (d := 74) rfl rfl (by kernel_rfl) (by kernel_rfl) (by kernel_rfl) (fun _ _ _ h => h) (by rfl) (fun V hV => by obtain ⟨v1, v2, v3⟩ := hV; go_simp) HS0.out ?_
            simp only [Act.put, List.setIfInBounds_toArray, List.set_cons_zero, List.set_cons_succ]
            refine takeH (i := 12) (v := .int .i64 x2) (d := 75) rfl rfl (by kernel_rfl) (by kernel_rfl) (by kernel_rfl) (fun _ _ _ h => h) (by rfl) (fun V hV => by obtain ⟨v1, v2, v3⟩ := hV; go_simp) HS0.out ?_
            simp only [Act.put, List.setIfInBounds_toArray, List.set_cons_zero, List.set_cons_succ]
            refine oneH (i := 13) rfl (by kernel_rfl) rfl (op_run (d := 76) (v' := .slice (some ⟨wr.heap.size, 0, none⟩) 2 2) (w' := wr.drew.alloc (.cells #[.int .i64 (x1), .int .i64 (x2)] 3)) rfl (by go_simp) ⟨HSA.out, ?_⟩)
            simp only [Act.put, List.setIfInBounds_toArray, List.set_cons_zero, List.set_cons_succ]
            refine oneH (i := 14) rfl (by kernel_rfl) rfl (call_append (d := 77) (s := .tmp 63) (x := .tmp 76) (t := 69) rfl rfl rfl rfl hrun8 ⟨HS8.out, ?_⟩)
            simp only [Act.put, List.setIfInBounds_toArray, List.set_cons_zero, List.set_cons_succ]
            obtain ⟨ya, yn, yc, rfl⟩ : ∃ a n c, v8 = .slice a n c := by
              obtain ⟨p1, p2, e⟩ := (RowK.own encI_len hown8 : InR w8 v8 (M ++ [x1, x2])).shape
              exact ⟨_, _, _, e⟩
            refine takeH (i := 15) (v := .slice ya yn yc) (d := 4) rfl rfl (by kernel_rfl) (by kernel_rfl) (by kernel_rfl) (fun _ _ _ h => h) (by rfl) (fun V hV => by obtain ⟨v1, v2, v3⟩ := hV; go_simp) HS8.out ?_
            simp only [Act.put, List.setIfInBounds_toArray, List.set_cons_zero, List.set_cons_succ]
            refine wpAnyH_done (by kernel_rfl) ?_ _
            have NO : Hid (w8.ownsRow B 3 1 (.slice ya yn yc) (M ++ [x1, x2]).length ((M ++ [x1, x2]).flatMap encI)) := hown8
            have NA : Hid (Below B W1 w8) := b8
            clear HS0 HSA HS8 HS owA hrun8 hown8 hg8 b8 ba bd OW AB
            go_wp2_with fail
            go_roundw
            case rel => exact ⟨k + 1, by omega, by go_num, ⟨_, _, _, rfl⟩, by rw [HT.out]; exact NO.out, NA.out⟩
            case measure => simp [intOf]; omega
          · have ek : ms.take k = ms := List.take_of_length_le (by omega)
            rw [ek, ← NE.out] at OW
            have HB7 : Hid (Below w.heap.size w wr) := BW7
            obtain ⟨c0, c1, c2, c3, c4⟩ := Q7.all5
            obtain ⟨V9, hV9⟩ : ∃ V, V = wr := ⟨wr, rfl⟩
            rw [← hV9] at OW AB hsr HB7 c0 c1 c2 c3 c4 ⊢
            obtain ⟨p1, p2, e9⟩ := (RowK.own encI_len OW.out : InR V9 (.slice la ln lc) NS).shape
            injection e9 with e9 e10 e11
            subst e9 e10 e11
            have hnl := HNL.out
            clear ek Q7 MM hV9 BW7 hll HK HL2 HVB NE
            go_wp2_with fail
            clear c0 c1 c2 c3 c4
            go_loopw [7, 8] (fun l i wr => ∃ k : Nat, k ≤ NS.length ∧ i = .int .i64 k ∧ (∃ a n c, l = .slice a n c) ∧ wr.ownsRow V9.heap.size 5 1 l (bytN (NS.take k)).length ((bytN (NS.take k)).map (Value.int .u8)) ∧ Below V9.heap.size V9 wr) (fun _ i _ => NS.length - (intOf i).toNat)
            case atStart => exact ⟨0, by omega, rfl, ⟨_, _, _, rfl⟩, World.ownsRow_nil _ _ _ _, Below.refl _ _⟩
            case round =>
              obtain ⟨k, hk, rfl, ⟨pa, pn, pc, rfl⟩, how, hbel⟩ := hrel
              have OB : Hid (wr.ownsRow V9.heap.size 5 1 (.slice pa pn pc) (bytN (NS.take k)).length ((bytN (NS.take k)).map (Value.int .u8))) := how
              have A9 : Hid (Below V9.heap.size V9 wr) := hbel
              have hs9 := hbel.size
              have hlb : (bytN (NS.take k)).length ≤ 110000 := by
                have h1 := bytN_len (NS.take k)
                rw [List.length_take] at h1
                omega
              clear how hbel
              by_cases hlt : k < NS.length
              · obtain ⟨b, off, cap', e1, _, _, lt, hv⟩ := InR.at ((RowK.own encI_len OW.out : InR V9 (.slice la NS.length lc) NS).below A9.out (Nat.le_refl _)) (by omega)
                injection e1 with e1 _ e3
                subst e1 e3
                obtain ⟨x, hx⟩ := getX hlt
                have d1 := hv k x hx
                obtain ⟨g1, g2⟩ := HNI.out x (List.mem_of_getElem? hx)
                have HT : Hid (bytN (NS.take (k + 1)) = bytN (NS.take k) ++ put x) := by show _ = _; rw [take_snoc hx, bytN_app, bytN_one]
                have p0 : (0 : Int) ≤ (k : Int) := by omega
                have p1 : (k : Int) < (NS.length : Int) := by omega
                have wx : IntKind.u64.wrap x = x := by rw [IntKind.wrap_u64]; omega
                have hpl := putLen_le x
                have CP : Hid (∀ X, Calls Tryd.prog 68 #[.int .u64 x] X fun e w' => ∃ v', e = .returned v' ∧ w'.ownsRow X.heap.size 5 1 v' (put x).length ((put x).map (Value.int .u8)) ∧ Below X.heap.size X w') := fun X => packed_any 9 x X g1 (by omega) (by omega)
                generalize bytN (NS.take k) = M at *
                clear hv hx
                go_wp2_with fail
                refine (CP.out _).mono ?_
                rintro e w2 ⟨v2, rfl, ho2, hb2⟩
                have O2 : Hid (w2.ownsRow V9.heap.size 5 1 (.slice pa pn pc) M.length (M.map (Value.int .u8))) := own_below OB.out hb2 (Nat.le_refl _)
                have R2 : Hid (Reads .u8 w2 v2 (put x)) := reads_own ho2
                have A2 : Hid (Below V9.heap.size V9 w2) := A9.out.trans (hb2.mono hs9)
                have hs2 := A2.out.size
                obtain ⟨qa, qn, qc, rfl⟩ : ∃ a n c, v2 = .slice a n c := by
                  rcases ho2.2 with ⟨hv, h0⟩ | ⟨g, cap, cur, hv, _⟩
                  · exact ⟨none, 0, 0, hv⟩
                  · exact ⟨_, _, _, hv⟩
                clear ho2 hb2 CP d1
                go_wp2_with (at_builtin; refine wpList_append_reads rfl _ _ rfl V9.heap.size _ M rfl O2.out _ (put x) rfl R2.out (by omega) hs2 ?_)
                intro v3 w3 hown3 hb3 _
                obtain ⟨qa3, qn3, qc3, rfl⟩ : ∃ a n c, v3 = .slice a n c := by
                  rcases hown3.2 with ⟨hv, h0⟩ | ⟨g, cap, cur, hv, _⟩
                  · exact ⟨none, 0, 0, hv⟩
                  · exact ⟨_, _, _, hv⟩
                have O3 : Hid (w3.ownsRow V9.heap.size 5 1 (.slice qa3 qn3 qc3) (M ++ put x).length ((M ++ put x).map (Value.int .u8))) := by show World.ownsRow _ _ _ _ _ _ _; simpa using hown3
                have A3 : Hid (Below V9.heap.size V9 w3) := A2.out.trans hb3
                clear hown3 hb3
                go_wp2_with fail
                go_roundw
                case rel => exact ⟨k + 1, by omega, by go_num, ⟨_, _, _, rfl⟩, by rw [HT.out]; exact O3.out, A3.out⟩
                case measure => simp [intOf]; omega
              · have ek : NS.take k = NS := List.take_of_length_le (by omega)
                rw [ek] at OB
                have hpn : pn = (bytN NS).length := own_lenB OB.out
                have HB9 : Hid (Below w.heap.size w wr) := HB7.out.trans (A9.out.mono HB7.out.size)
                have RN : Hid (Reads .u8 wr (.slice pa pn pc) (bytN NS)) := reads_own OB.out
                subst hpn
                generalize bytN NS = NN at *
                clear ek A9 OB OW AB HB7 HNI
                by_cases hsz : NN.length ≤ 20000
                · have HRE : Hid (R = (wrap NN, 0)) := EY2.out hsz
                  have CW : Hid (∀ X, X = wr → _) := fun X (_ : X = wr) => wrapped_any (.slice pa NN.length pc) NN wr RN.out HNB.out hsz
                  clear EB2 EY2
                  go_wp2_with fail
                  refine (CW.out _ rfl).mono ?_
                  rintro e W9 ⟨v9, rfl, ho9, hb9⟩
                  have HP : Hid (BytP2 w R (.returned (.tuple #[v9, .int .i64 0])) W9) := by
                    show BytP2 _ _ _ _
                    rw [HRE.out]
                    exact ⟨_, rfl, own_lower ho9 HB9.out.size, HB9.out.trans (hb9.mono HB9.out.size)⟩
                  clear ho9 hb9 CW
                  generalize BytP2 w R = P at *
                  go_wp2_with fail
                  exact HP.out
                · have HRE : Hid (R = ([], 1)) := EB2.out hsz
                  have CW : Hid (∀ X, X = wr → _) := fun X (_ : X = wr) => wrapped_over pa NN.length pc wr (by omega)
                  clear EB2 EY2
                  go_wp2_with fail
                  refine (CW.out _ rfl).mono ?_
                  rintro e W9 ⟨rfl, rfl⟩
                  have HP : Hid (BytP2 w R (.returned (.tuple #[.slice none 0 0, .int .i64 1])) W9) := by
                    show BytP2 _ _ _ _
                    rw [HRE.out]
                    exact BytP2.no HB9.out
                  clear CW
                  generalize BytP2 w R = P at *
                  go_wp2_with fail
                  exact HP.out
end Go.Proofs.YthakibcfmbkpkaaDoor

namespace Go.Proofs.YthakibcfmbkpkaaDoor
set_option maxRecDepth 100000
open Go.ChangeShapes Go.WideShapes Go.ChangeAt Go.RowKit

set_option maxHeartbeats 1600000 in
theorem unpacked_row (b off cap : Nat) (xs : List Int) (w : World) (hn : 0 < xs.length) (hm : xs.length ≤ maxLen) (hx : ∀ x ∈ xs, 0 ≤ x ∧ x ≤ 255)
    (hcell : ∀ i, i < xs.length → w.cell? ⟨b, off + i, none⟩ = some (.int .u8 (xs.getD i 0))) :
    Calls Tryd.prog 65 #[.slice (some ⟨b, off, none⟩) xs.length cap] w fun e w' =>
      e = .returned (.tuple #[.int .u64 (get xs).1, .int .i64 (get xs).2.1, .int .i64 (get xs).2.2]) ∧ w' = w := by
  unfold maxLen at hm
  have HC : Hid (∀ i, i < xs.length → w.cell? ⟨b, off + i, none⟩ = some (.int .u8 (xs.getD i 0))) := hcell
  have HX : Hid (∀ i, i < xs.length → 0 ≤ xs.getD i 0 ∧ xs.getD i 0 ≤ 255) := fun i hi => hx _ (by rw [List.getD_eq_getElem?_getD, List.getElem?_eq_getElem hi]; exact List.getElem_mem hi)
  clear hcell hx
  go_enter Tryd.func65, Tryd.ntmps65
  go_wp2_with fail
  go_loop [5] (fun i => ∃ (k : Nat), k ≤ xs.length ∧ k ≤ 10 ∧ i = .int .i64 k ∧ ∀ i, i < k → 128 ≤ xs.getD i 0) (fun i => 10 - (intOf i).toNat)
  case atStart => exact ⟨0, by omega, by omega, rfl, fun i hi => by omega⟩
  case round =>
    obtain ⟨k, hk, hk10, rfl, hb⟩ := hrel
    have HB : Hid (∀ i, i < k → 128 ≤ xs.getD i 0) := hb
    clear hb
    by_cases hgo : k < xs.length ∧ k < 10 ∧ 128 ≤ xs.getD k 0
    · obtain ⟨hlt, h10, hge⟩ := hgo
      have hck := HC.out k hlt
      have hxb := HX.out k hlt
      generalize hxe : xs.getD k 0 = x at hck hxb hge
      have HE : Hid (xs.getD k 0 = x) := hxe
      clear hxe
      go_wp2_with fail
      go_round
      case rel => exact ⟨k + 1, by omega, by omega, by go_num, fun i hi => by
        by_cases h : i = k
        · rw [h, HE.out]; exact hge
        · exact HB.out i (by omega)⟩
      case measure => simp [intOf]; omega
    · by_cases h10 : k = 10
      · have hl9 : 9 < xs.length := by omega
        have hck := HC.out 9 hl9
        have hy := HB.out 9 (by omega)
        have hxb := HX.out 9 hl9
        have HV : Hid (get xs = (0, 0, 6)) := get_over xs hl9 (fun i hi => HB.out i (by omega)) (by omega)
        clear hgo
        generalize xs.getD 9 0 = y at *
        have hge : 10 ≤ k := by omega
        clear h10
        by_cases hlt : k < xs.length
        all_goals
          go_wp2_with fail
          go_ret3
          exact ⟨by rw [HV.out]; rfl, rfl⟩
      · by_cases hlt : k < xs.length
        · have hck := HC.out k hlt
          have hxb := HX.out k hlt
          have hsm : xs.getD k 0 < 128 := by
            rcases Int.lt_or_le (xs.getD k 0) 128 with h | h
            · exact h
            · exact absurd ⟨hlt, by omega, h⟩ hgo
          have Hov : Hid (k = 9 → 1 < xs.getD k 0 → get xs = (0, 0, 6)) := fun h9 h1 => get_over xs (by omega) (by rw [h9] at HB; exact HB.out) (by rw [h9] at h1; exact h1)
          have Hform : Hid (0 < k → xs.getD k 0 = 0 → get xs = (0, 0, 3)) := fun h0 hz => get_form xs k (by omega) h0 hlt HB.out hz
          have Hok : Hid ((k = 9 → xs.getD k 0 ≤ 1) → ¬ (xs.getD k 0 = 0 ∧ 0 < k) → get xs = (val (xs.take (k + 1)), k + 1, 0) ∧ 0 ≤ val (xs.take (k + 1)) ∧ val (xs.take (k + 1)) ≤ 18446744073709551615) :=
            fun h9 hz => get_ok xs k (by omega) hlt HB.out h9 hxb.1 hsm hz
          have H9 : Hid (9 ≤ k → w.cell? ⟨b, off + 9, none⟩ = some (.int .u8 (xs.getD k 0))) := fun h => by
            have e : k = 9 := by omega
            have h1 := hck
            rw [e] at h1 ⊢
            exact h1
          have HK : Hid (w.cell? ⟨b, off + k, none⟩ = some (.int .u8 (xs.getD k 0))) := hck
          clear hgo hck
          generalize hxe : xs.getD k 0 = x at *
          have hck := HK.out
          clear hxe HK
          have hk9 : k ≤ 9 := by omega
          clear h10 hk10
          by_cases hov : 9 ≤ k ∧ 1 < x
          · have HV : Hid (get xs = (0, 0, 6)) := Hov.out (by omega) hov.2
            have hc9 := H9.out hov.1
            obtain ⟨h9, h1⟩ := hov
            go_wp2_with fail
            go_ret3
            exact ⟨by rw [HV.out]; rfl, rfl⟩
          · by_cases hz : x = 0 ∧ 0 < k
            · have HV : Hid (get xs = (0, 0, 3)) := Hform.out hz.2 hz.1
              have hz' : (x == 0) = true := by simp [hz.1]
              have hz0 := hz.2
              have hx1 : x ≤ 1 := by omega
              clear hz hov
              by_cases h9 : 9 ≤ k
              · have hc9 := H9.out h9
                go_wp2_with fail
                go_ret3
                exact ⟨by rw [HV.out]; rfl, rfl⟩
              · go_wp2_with fail
                go_ret3
                exact ⟨by rw [HV.out]; rfl, rfl⟩
            · obtain ⟨e1, e2, e3⟩ := Hok.out (fun _ => by omega) hz
              have HV : Hid (get xs = (val (xs.take (k + 1)), k + 1, 0)) := e1
              have HL : Hid (∀ t, t ≤ k → val ((xs.take (k + 1)).drop t) = xs.getD t 0 % 128 + 128 * val ((xs.take (k + 1)).drop (t + 1)) ∧ val ((xs.take (k + 1)).drop t) ≤ 18446744073709551615 ∧ 0 ≤ val ((xs.take (k + 1)).drop (t + 1))) := fun t ht => by
                refine ⟨?_, Int.le_trans (val_drop _ _) e3, val_nonneg _⟩
                have hd : t < (xs.take (k + 1)).length := by rw [List.length_take_of_le (by omega)]; omega
                rw [drop_step hd, val]
                congr 2
                rw [List.getD_eq_getElem?_getD, List.getD_eq_getElem?_getD, List.getElem?_take_of_lt (by omega)]
              have H0 : Hid (val ((xs.take (k + 1)).drop (k + 1)) = 0) := by
                show val _ = 0
                rw [List.drop_eq_nil_of_le (by rw [List.length_take_of_le (by omega)]; omega)]; rfl
              clear e1 e2 e3 Hok Hform Hov
              have hcase : (9 ≤ k ∧ x ≤ 1 ∧ (x == 0) = false ∧ w.cell? ⟨b, off + 9, none⟩ = some (.int .u8 x)) ∨ (k < 9 ∧ 0 < k ∧ (x == 0) = false) ∨ k < 1 := by
                by_cases h9 : 9 ≤ k
                · exact .inl ⟨h9, by omega, by simp; omega, H9.out h9⟩
                · by_cases h0 : 0 < k
                  · exact .inr (.inl ⟨by omega, h0, by simp; omega⟩)
                  · exact .inr (.inr (by omega))
              clear hz hov H9
              rcases hcase with ⟨h9, h1, hz', hc9⟩ | ⟨h9, h0, hz'⟩ | h0
              all_goals
                go_wp2_with fail
                go_loop [6, 7] (fun n i => ∃ j : Nat, j ≤ k + 1 ∧ i = .int .i64 ((j : Int) - 1) ∧ n = .int .u64 (val ((xs.take (k + 1)).drop j))) (fun _ i => (intOf i + 1).toNat)
                case atStart => exact ⟨k + 1, by omega, by go_num, by rw [H0.out]⟩
                case round =>
                  obtain ⟨j, hj, rfl, rfl⟩ := hrel
                  by_cases hj0 : 0 < j
                  · obtain ⟨t, rfl⟩ : ∃ t, j = t + 1 := ⟨j - 1, by omega⟩
                    have hct := HC.out t (by omega)
                    have hxt := HX.out t (by omega)
                    obtain ⟨v1, v2, v3⟩ := HL.out t (by omega)
                    have HV1 : Hid (val ((xs.take (k + 1)).drop t) = xs.getD t 0 % 128 + 128 * val ((xs.take (k + 1)).drop (t + 1))) := v1
                    rw [v1] at v2
                    clear v1
                    generalize xs.getD t 0 = y at *
                    generalize val ((xs.take (k + 1)).drop (t + 1)) = V at *
                    go_wp2_with fail
                    go_round
                    case rel => exact ⟨t, by omega, by go_num, by rw [HV1.out]; go_num⟩
                    case measure => simp [intOf]
                  · have hj1 : j = 0 := by omega
                    subst hj1
                    go_wp2_with fail
                    go_ret3
                    exact ⟨by rw [HV.out]; exact tup3 (by simp) (by simp) rfl, rfl⟩
        · have HV : Hid (get xs = (0, 0, 4)) := get_short xs (by omega) (fun i hi => HB.out i (by omega))
          have hl9 : xs.length ≤ 9 := by omega
          have he : ((k : Int) == (xs.length : Int)) = true := by simp; omega
          clear hgo h10
          by_cases h9 : 9 ≤ k
          all_goals
            go_wp2_with fail
            go_ret3
            exact ⟨by rw [HV.out]; rfl, rfl⟩

theorem unpacked_empty (a : Option Addr) (cap : Nat) (w : World) :
    Calls Tryd.prog 65 #[.slice a 0 cap] w fun e w' =>
      e = .returned (.tuple #[.int .u64 0, .int .i64 0, .int .i64 4]) ∧ w' = w := by
  go_enter Tryd.func65, Tryd.ntmps65
  go_wp2_with fail
  refine wp_loop_rounds 1 ?_
  rw [rounds_succ]
  go_wp2
  go_ret3
  exact ⟨rfl, rfl⟩

theorem unpacked_any (v : Value) (xs : List Int) (w : World) (h : Reads .u8 w v xs) (hx : ∀ x ∈ xs, 0 ≤ x ∧ x ≤ 255) :
    Calls Tryd.prog 65 #[v] w fun e w' =>
      e = .returned (.tuple #[.int .u64 (get xs).1, .int .i64 (get xs).2.1, .int .i64 (get xs).2.2]) ∧ w' = w := by
  by_cases hn : 0 < xs.length
  · obtain ⟨b, off, cap, rfl, hc, hm, _, hcell⟩ := h.plain hn
    exact unpacked_row b off cap xs w hn (Nat.le_trans hc hm) hx hcell
  · have : xs = [] := List.eq_nil_of_length_eq_zero (by omega)
    subst this
    obtain ⟨a, cap, rfl, _, _⟩ := h.empty
    exact unpacked_empty a cap w
end Go.Proofs.YthakibcfmbkpkaaDoor

namespace Go.Proofs.YthakibcfmbkpkaaDoor
set_option maxRecDepth 100000
open Go.ChangeShapes Go.WideShapes Go.ChangeAt Go.RowKit

theorem getD_takeI {xs : List Int} {n i : Nat} (h : i < n) : (xs.take n).getD i 0 = xs.getD i 0 := by
  rw [List.getD_eq_getElem?_getD, List.getD_eq_getElem?_getD, List.getElem?_take_of_lt h]
theorem getD_ext {xs ys : List Int} (hl : xs.length = ys.length) (h : ∀ i, i < xs.length → xs.getD i 0 = ys.getD i 0) : xs = ys := by
  apply List.ext_getElem hl
  intro i h1 h2
  have := h i h1
  rwa [List.getD_eq_getElem?_getD, List.getD_eq_getElem?_getD, List.getElem?_eq_getElem h1, List.getElem?_eq_getElem h2] at this
/-- The frame made again is what the bytes begin with just if the sum is right. -/
theorem again_iff {xs : List Int} {m k : Nat} (hw : wrap ((xs.drop k).take m) = xs.take (k + m) ++ four (crc (xs.take (k + m)))) (hl : k + m + 4 ≤ xs.length) :
    four (crc (xs.take (k + m))) = (xs.drop (k + m)).take 4 ↔ ∀ i, i < k + m + 4 → (wrap ((xs.drop k).take m)).getD i 0 = xs.getD i 0 := by
  have ht : xs.take (k + m + 4) = xs.take (k + m) ++ (xs.drop (k + m)).take 4 := List.take_add
  have hlw : (wrap ((xs.drop k).take m)).length = (xs.take (k + m + 4)).length := by rw [hw, ht]; simp [four]; omega
  have h4 : (xs.take (k + m + 4)).length = k + m + 4 := List.length_take_of_le hl
  constructor
  · intro h i hi
    rw [hw, h, ← ht, getD_takeI hi]
  · intro h
    have e : wrap ((xs.drop k).take m) = xs.take (k + m + 4) := getD_ext hlw (fun i hi => by rw [h i (by omega), getD_takeI (by omega)])
    rw [hw, ht] at e
    exact List.append_cancel_left e
theorem snoc_mid {xs : List Int} {k j : Nat} (h : k + j < xs.length) : (xs.drop k).take (j + 1) = (xs.drop k).take j ++ [xs.getD (k + j) 0] := by
  have := take_snocI (xs := xs.drop k) (k := j) (by rw [List.length_drop]; omega)
  rw [this]
  simp [List.getD_eq_getElem?_getD, List.getElem?_drop]

set_option maxHeartbeats 1600000 in
set_option maxRecDepth 100000 in
theorem unwrapped_any (v : Value) (xs : List Int) (w : World) (h : Reads .u8 w v xs) (hx : ∀ x ∈ xs, 0 ≤ x ∧ x ≤ 255) :
    Calls Tryd.prog 47 #[v] w fun e w' =>
      ∃ v', e = .returned (.tuple #[v', .int .i64 (unwrapF xs).2.1, .int .i64 (unwrapF xs).2.2]) ∧ w'.ownsRow w.heap.size 5 1 v' (unwrapF xs).1.length ((unwrapF xs).1.map (Value.int .u8)) ∧ Below w.heap.size w w' := by
  have HX : Hid (∀ x ∈ xs, 0 ≤ x ∧ x ≤ 255) := hx
  have G := unpacked_any v xs w h hx
  rcases get_inv hx with ⟨e, hg, he⟩ | ⟨n, r, hg, hr, hn0, hn1⟩
  · rw [hg] at G
    have HU : Hid (unwrapF xs = ([], 0, e)) := unwrapF_err hg he
    have HG : Hid (Calls Tryd.prog 65 #[v] w fun e' w' => e' = .returned (.tuple #[.int .u64 0, .int .i64 ((0 : Nat) : Int), .int .i64 e]) ∧ w' = w) := G
    have heb : (e != 0) = true := by simp [he]
    clear G hg hx h HX
    go_enter Tryd.func47, Tryd.ntmps47
    go_wp2_with fail
    refine HG.out.mono ?_
    rintro e w1 ⟨rfl, rfl⟩
    go_wp2_with fail
    go_ret3
    exact ⟨_, by rw [HU.out]; rfl, by rw [HU.out]; exact World.ownsRow_nil _ _ _ _, Below.refl _ _⟩
  · obtain ⟨m, rfl⟩ := Int.eq_ofNat_of_zero_le hn0
    rw [hg] at G
    have pl := put_len (m : Int)
    have hkl : (put (m : Int)).length ≤ xs.length := by rw [hr]; simp
    have HPT : Hid (xs.take (put (m : Int)).length = put (m : Int)) := by show _ = _; rw [hr]; simp
    clear hr
    obtain ⟨k, hk⟩ : ∃ k, (put (m : Int)).length = k := ⟨_, rfl⟩
    rw [hk] at G pl hkl hg HPT
    have HGG : Hid (get xs = ((m : Int), k, 0)) := hg
    have HG : Hid (Calls Tryd.prog 65 #[v] w fun e' w' => e' = .returned (.tuple #[.int .u64 (m : Int), .int .i64 (k : Int), .int .i64 0]) ∧ w' = w) := G
    have HK : Hid ((put (m : Int)).length = k) := hk
    clear G hg hx hk
    by_cases hbig : 20000 < (m : Int)
    · have HU : Hid (unwrapF xs = ([], 0, 1)) := unwrapF_size HGG.out hbig
      go_enter Tryd.func47, Tryd.ntmps47
      go_wp2_with fail
      refine HG.out.mono ?_
      rintro e w1 ⟨rfl, rfl⟩
      go_wp2_with fail
      go_ret3
      exact ⟨_, by rw [HU.out]; rfl, by rw [HU.out]; exact World.ownsRow_nil _ _ _ _, Below.refl _ _⟩
    · have hm2 : m ≤ 20000 := by omega
      obtain ⟨b, off, cap, rfl, hc, hm, hbw, hcell⟩ := h.plain (by omega)
      unfold maxLen at hm
      by_cases hsh : xs.length < k + m + 4
      · have HU : Hid (unwrapF xs = ([], 0, 4)) := unwrapF_short HGG.out hm2 hsh
        clear h hcell
        go_enter Tryd.func47, Tryd.ntmps47
        go_wp2_with fail
        refine HG.out.mono ?_
        rintro e w1 ⟨rfl, rfl⟩
        go_wp2_with fail
        go_ret3
        exact ⟨_, by rw [HU.out]; rfl, by rw [HU.out]; exact World.ownsRow_nil _ _ _ _, Below.refl _ _⟩
      · have hsl : k + m + 4 ≤ xs.length := by omega
        have HC : Hid (∀ i, i < xs.length → w.cell? ⟨b, off + i, none⟩ = some (.int .u8 (xs.getD i 0))) := hcell
        have hpl : ((xs.drop k).take m).length = m := by rw [List.length_take, List.length_drop]; omega
        have HPL : Hid (((xs.drop k).take m).length = m) := hpl
        have htk : xs.take (k + m) = put (m : Int) ++ (xs.drop k).take m := by rw [List.take_add, HPT.out]
        have HW : Hid (wrap ((xs.drop k).take m) = xs.take (k + m) ++ four (crc (xs.take (k + m)))) := by show _ = _; unfold wrap; rw [hpl, htk]
        have HXP : Hid (∀ x ∈ (xs.drop k).take m, 0 ≤ x ∧ x ≤ 255) := fun x hx => HX.out x (List.mem_of_mem_drop (List.mem_of_mem_take hx))
        clear h hcell hpl htk hsh
        go_enter Tryd.func47, Tryd.ntmps47
        go_wp2_with fail
        refine HG.out.mono ?_
        rintro e w1 ⟨rfl, rfl⟩
        go_wp2_with fail
        go_loopw [8, 9] (fun p i wr => ∃ j : Nat, j ≤ m ∧ i = .int .i64 ((k + j : Nat) : Int) ∧ wr.ownsRow w1.heap.size 5 1 p ((xs.drop k).take j).length (((xs.drop k).take j).map (Value.int .u8)) ∧ Below w1.heap.size w1 wr) (fun _ i _ => k + m - (intOf i).toNat)
        case atStart => exact ⟨0, by omega, rfl, by simpa using World.ownsRow_nil _ _ _ _, Below.refl _ _⟩
        case round =>
          obtain ⟨j, hj, rfl, hown, hbel⟩ := hrel
          have hs := hbel.size
          by_cases hlt : j < m
          · have hck : wr.cell? ⟨b, off + (k + j), none⟩ = some (.int .u8 (xs.getD (k + j) 0)) := (hbel.cell (by exact hbw)).trans (HC.out (k + j) (by omega))
            have HTk := snoc_mid (xs := xs) (k := k) (j := j) (by omega)
            have HA : Hid ((xs.drop k).take (j + 1) = (xs.drop k).take j ++ [xs.getD (k + j) 0]) := HTk
            have hlen : ((xs.drop k).take j).length ≤ 20000 := by rw [List.length_take]; omega
            clear HTk
            generalize xs.getD (k + j) 0 = x at *
            have OW : Hid (wr.ownsRow w1.heap.size 5 1 u8 ((xs.drop k).take j).length (((xs.drop k).take j).map (Value.int .u8))) := hown
            clear hown
            generalize (xs.drop k).take j = f at *
            go_wp2_with (at_builtin; refine wpList_append_reads rfl _ _ rfl w1.heap.size _ f rfl (OW.out.alloc _) _ [x] rfl (reads_block (xs := [x]) (heap_alloc_new _ _) (by simp [maxLen])) (by simp; omega) (by simp; omega) ?_)
            intro v2 w2 hown2 hbel2 _
            have B2 : Hid (Below w1.heap.size w1 w2) := (hbel.alloc hs _).trans hbel2
            have O2 : Hid (w2.ownsRow w1.heap.size 5 1 v2 ((xs.drop k).take (j + 1)).length (((xs.drop k).take (j + 1)).map (Value.int .u8))) := by show World.ownsRow _ _ _ _ _ _ _; rw [HA.out]; simpa using hown2
            clear hown2 hbel2 hbel
            go_wp2
            go_roundw
            case rel => exact ⟨j + 1, by omega, by go_num, O2.out, B2.out⟩
            case measure => simp [intOf]; omega
          · have ej : j = m := by omega
            subst ej
            have O2 : Hid (wr.ownsRow w1.heap.size 5 1 u8 ((xs.drop k).take j).length (((xs.drop k).take j).map (Value.int .u8))) := hown
            have B2 : Hid (Below w1.heap.size w1 wr) := hbel
            clear hown hbel
            go_wp2_with fail
            refine (wrapped_any _ ((xs.drop k).take j) _ (reads_own O2.out) HXP.out (by rw [HPL.out]; exact hm2)).mono ?_
            rintro e w3 ⟨v3, rfl, hown3, hbel3⟩
            have hs3 := hbel3.size
            have O3 : Hid (w3.ownsRow w1.heap.size 5 1 u8 ((xs.drop k).take j).length (((xs.drop k).take j).map (Value.int .u8))) := own_below O2.out hbel3 (Nat.le_refl _)
            have B3 : Hid (Below w1.heap.size w1 w3) := B2.out.trans (hbel3.mono hs)
            have HI := again_iff HW.out hsl
            have HAI : Hid (four (crc (xs.take (k + j))) = (xs.drop (k + j)).take 4 ↔ ∀ i, i < k + j + 4 → (wrap ((xs.drop k).take j)).getD i 0 = xs.getD i 0) := HI
            clear HI hbel3
            have hal : (wrap ((xs.drop k).take j)).length = k + j + 4 := by rw [wrap_len, HPL.out, HK.out]
            obtain ⟨g3, c3, rfl, hg3, hg3', hc3, hm3, hcell3⟩ := own_shape hown3 (by rw [hal]; omega)
            rw [hal] at hc3 ⊢
            have HC3 : Hid (∀ i, i < k + j + 4 → w3.cell? ⟨g3, i, none⟩ = some (.int .u8 ((wrap ((xs.drop k).take j)).getD i 0))) := fun i hi => by
              have h1 := hcell3 i (.int .u8 ((wrap ((xs.drop k).take j)).getD i 0)) (by rw [List.getElem?_map, List.getElem?_eq_getElem (by omega)]; simp [List.getD_eq_getElem?_getD, List.getElem?_eq_getElem (show i < (wrap ((xs.drop k).take j)).length by omega)])
              have hadd : (⟨g3, 0, none⟩ : Addr).add i = ⟨g3, i, none⟩ := by unfold Addr.add; split <;> simp_all
              rwa [hadd] at h1
            have HUK : Hid (four (crc (xs.take (k + j))) = (xs.drop (k + j)).take 4 → unwrapF xs = ((xs.drop k).take j, k + j + 4, 0)) := fun h => unwrapF_ok HGG.out hm2 hsl h
            have HUS : Hid (¬ four (crc (xs.take (k + j))) = (xs.drop (k + j)).take 4 → unwrapF xs = ([], 0, 5)) := fun h => unwrapF_sum HGG.out hm2 hsl h
            clear hown3 hcell3 hal O2 B2 HG
            unfold maxLen at hm3
            generalize wrap ((xs.drop k).take j) = ag at *
            go_wp2_with fail
            go_loopw [12] (fun i wq => ∃ t : Nat, t ≤ k + j + 4 ∧ i = .int .i64 t ∧ (∀ i, i < t → ag.getD i 0 = xs.getD i 0) ∧ Below w3.heap.size w3 wq) (fun i _ => k + j + 4 - (intOf i).toNat)
            case atStart => exact ⟨0, by omega, rfl, fun i hi => by omega, Below.refl _ _⟩
            case round =>
              obtain ⟨t, ht, rfl, hst, hbt⟩ := hrel
              have HST : Hid (∀ i, i < t → ag.getD i 0 = xs.getD i 0) := hst
              clear hst
              by_cases hlt2 : t < k + j + 4
              · have d1 : wr.cell? ⟨g3, t, none⟩ = some (.int .u8 (ag.getD t 0)) := (hbt.cell (by exact hg3')).trans (HC3.out t hlt2)
                have d2 : wr.cell? ⟨b, off + t, none⟩ = some (.int .u8 (xs.getD t 0)) := (hbt.cell (show b < w3.heap.size by omega)).trans ((B3.out.cell (by exact hbw)).trans (HC.out t (by omega)))
                have hlt' : (t : Int) < (k : Int) + (j : Int) + 4 := by omega
                have hlt3 : (t : Int) < (xs.length : Int) := by omega
                have h0' : (0 : Int) ≤ (t : Int) := by omega
                have HN : Hid (ag.getD t 0 = xs.getD t 0 → ∀ i, i < t + 1 → ag.getD i 0 = xs.getD i 0) := fun h i hi => by
                  by_cases e : i = t
                  · rw [e]; exact h
                  · exact HST.out i (by omega)
                have HF : Hid (ag.getD t 0 ≠ xs.getD t 0 → unwrapF xs = ([], 0, 5)) := fun h => HUS.out (fun e => h (HAI.out.1 e t hlt2))
                generalize ag.getD t 0 = x at *
                generalize xs.getD t 0 = y at *
                go_wp2_with fail
                go_quiet (fail)
                by_cases hxy : x = y
                · have hne : (x != y) = false := by simp [hxy]
                  go_wp2_with fail
                  go_roundw
                  case rel => exact ⟨t + 1, by omega, by go_num, HN.out hxy, below_drewN hbt _⟩
                  case measure => simp [intOf]; omega
                · have hne : (x != y) = true := by simp [hxy]
                  have HU := HF.out hxy
                  have HU2 : Hid (unwrapF xs = ([], 0, 5)) := HU
                  clear HU
                  go_wp2_with fail
                  go_ret3
                  exact ⟨_, by rw [HU2.out]; rfl, by rw [HU2.out]; exact World.ownsRow_nil _ _ _ _, below_drewN (B3.out.trans (hbt.mono (by omega))) _⟩
              · have HU : Hid (unwrapF xs = ((xs.drop k).take j, k + j + 4, 0)) := HUK.out (HAI.out.2 (fun i hi => HST.out i (by omega)))
                have O4 : Hid (wr.ownsRow w1.heap.size 5 1 u8 (unwrapF xs).1.length ((unwrapF xs).1.map (Value.int .u8))) := by show World.ownsRow _ _ _ _ _ _ _; rw [HU.out]; exact own_below O3.out hbt (Nat.le_refl _)
                have B4 : Hid (Below w1.heap.size w1 wr) := B3.out.trans (hbt.mono (by omega))
                go_wp2_with fail
                go_ret3
                exact ⟨_, by rw [HU.out]; first | rfl | (simp; done), O4.out, B4.out⟩
end Go.Proofs.YthakibcfmbkpkaaDoor

namespace Go.Proofs.YthakibcfmbkpkaaDoor
set_option maxRecDepth 100000
open Go.ChangeShapes Go.WideShapes Go.ChangeAt Go.RowKit

/-- What small tells of a place: a number and the place behind it, or neither. -/
def SmlP (m : Int) (xs : List Int) (at_ : Nat) (e : Ending) : Prop :=
  (numF m (xs.drop at_) = none ∧ e = .returned (.tuple #[.int .i64 0, .int .i64 (-1)])) ∨
  ∃ (x : Int) (at2 : Nat), numF m (xs.drop at_) = some (x, xs.drop at2) ∧ at_ < at2 ∧ at2 ≤ xs.length ∧ e = .returned (.tuple #[.int .i64 x, .int .i64 at2])

set_option maxHeartbeats 400000 in
theorem small_neg (v : Value) (m : Int) (w : World) : Calls Tryd.prog 48 #[v, .int .i64 (-1), .int .i64 m] w fun e w' => e = .returned (.tuple #[.int .i64 0, .int .i64 (-1)]) ∧ w' = w := by
  go_enter Tryd.func48, Tryd.ntmps48
  go_wp2_with fail
  go_ret2
  exact ⟨rfl, rfl⟩

set_option maxHeartbeats 800000 in
set_option maxRecDepth 100000 in
theorem small_any (v : Value) (xs : List Int) (i : Nat) (m : Int) (w : World) (h : Reads .u8 w v xs) (hx : ∀ x ∈ xs, 0 ≤ x ∧ x ≤ 255) (hi : i ≤ xs.length) (hL : xs.length ≤ 140737488355328) (hm : 0 ≤ m ∧ m ≤ 4611686018427387904) :
    Calls Tryd.prog 48 #[v, .int .i64 i, .int .i64 m] w fun e w' => SmlP m xs i e ∧ w' = w := by
  obtain ⟨a, cap, rfl, hc, hmx, _⟩ := id h
  have hcut := run_cutV a xs.length cap i hi
  have HR : Hid (Reads .u8 w (cutV a xs.length cap i) (xs.drop i)) := reads_cutV h hi
  have hx2 : ∀ x ∈ xs.drop i, 0 ≤ x ∧ x ≤ 255 := fun x h => hx x (List.mem_of_mem_drop h)
  have HG : Hid (∀ X, Reads .u8 X (cutV a xs.length cap i) (xs.drop i) → Calls Tryd.prog 65 #[cutV a xs.length cap i] X fun e w' => e = .returned (.tuple #[.int .u64 (get (xs.drop i)).1, .int .i64 (get (xs.drop i)).2.1, .int .i64 (get (xs.drop i)).2.2]) ∧ w' = X) := fun X hX => unpacked_any _ _ X hX hx2
  rcases get_inv hx2 with ⟨e, he, hne⟩ | ⟨n, t, he, hl, h0, h1⟩
  · have HN : Hid (numF m (xs.drop i) = none) := numF_err he hne
    rw [he] at HG
    have hne' : (e != 0) = true := by simpa using hne
    clear he hx hx2 h hne
    go_enter Tryd.func48, Tryd.ntmps48
    go_wp2_with fail
    refine (HG.out _ HR.out).mono ?_
    rintro e w1 ⟨rfl, rfl⟩
    go_wp2_with fail
    go_ret2
    exact ⟨.inl ⟨HN.out, rfl⟩, rfl⟩
  · by_cases hn : n ≤ m
    · have hp := put_len n
      have hpl : (put n).length ≤ xs.length - i := by rw [← List.length_drop, hl]; simp
      have HN : Hid (numF m (xs.drop i) = some (n, xs.drop (i + (put n).length))) := by show _ = _; rw [numF_yes he hn, List.drop_drop]
      have hw : IntKind.u64.wrap m = m := by rw [IntKind.wrap_u64]; omega
      rw [he] at HG
      clear he hl hx hx2 h
      generalize (put n).length = u at *
      go_enter Tryd.func48, Tryd.ntmps48
      go_wp2_with fail
      refine (HG.out _ HR.out).mono ?_
      rintro e w1 ⟨rfl, rfl⟩
      go_wp2_with fail
      go_ret2
      exact ⟨.inr ⟨n, i + u, HN.out, by omega, by omega, by go_num⟩, rfl⟩
    · have HN : Hid (numF m (xs.drop i) = none) := numF_big he (by omega)
      have hw : IntKind.u64.wrap m = m := by rw [IntKind.wrap_u64]; omega
      have hn2 : m < n := by omega
      rw [he] at HG
      clear he hl hx hx2 h
      generalize (put n).length = u at *
      go_enter Tryd.func48, Tryd.ntmps48
      go_wp2_with fail
      refine (HG.out _ HR.out).mono ?_
      rintro e w1 ⟨rfl, rfl⟩
      go_wp2_with fail
      go_ret2
      exact ⟨.inl ⟨HN.out, rfl⟩, rfl⟩
end Go.Proofs.YthakibcfmbkpkaaDoor

namespace Go.Proofs.YthakibcfmbkpkaaDoor
set_option maxRecDepth 100000
open Go.ChangeShapes Go.WideShapes Go.ChangeAt Go.RowKit

set_option maxHeartbeats 4000000 in
set_option maxRecDepth 100000 in
theorem savedOf_any (v : Value) (b : List Int) (w : World) (hr : Reads .u8 w v b) (hx : ∀ x ∈ b, 0 ≤ x ∧ x ≤ 255) :
    Calls Tryd.prog 27 #[v] w (SvdP w (decS b)) := by
  have HR : Hid (Reads .u8 w v b) := hr
  have HX : Hid (∀ x ∈ b, 0 ≤ x ∧ x ≤ 255) := hx
  obtain ⟨va, vc, rfl⟩ : ∃ a c, v = .slice a b.length c := by obtain ⟨a, c, e, _⟩ := hr; exact ⟨a, c, e⟩
  obtain ⟨W0, hW0⟩ : ∃ W0, W0 = w.alloc (.cells #[.int .i64 0, .int .i64 0, .bool false, .slice none 0 0, .slice none 0 0] 34) := ⟨_, rfl⟩
  have Q0 : BX 34 W0 w.heap.size #[.int .i64 0, .int .i64 0, .bool false, .slice none 0 0, .slice none 0 0] := by rw [hW0]; exact BX.new _ _ _
  have s1 : w.heap.size + 1 ≤ W0.heap.size := by rw [hW0]; simp
  have B0 : Hid (Below w.heap.size w W0) := by show Below _ _ _; rw [hW0]; exact below_alloc _ _
  have ZX : Hid (∀ X, Below W0.heap.size W0 X → BX 34 X w.heap.size #[.int .i64 0, .int .i64 0, .bool false, .slice none 0 0, .slice none 0 0] ∧ Below w.heap.size w X) := fun X hX => ⟨Q0.below hX (by omega), B0.out.trans (hX.mono (by omega))⟩
  have DE : Hid (¬ (unwrapF b).2.2 = 0 → decS b = (sv0, (unwrapF b).2.2)) := decS_err
  have DY : Hid (∀ s, encS s = (b, 0) → decS b = (s, 0)) := fun s h => decS_yes h
  have DN : Hid ((unwrapF b).2.2 = 0 → (∀ s, encS s ≠ (b, 0)) → decS b = (sv0, 3)) := decS_no
  have DQ : Hid (noQ (unwrapF b).1 → ∀ s, encS s ≠ (b, 0)) := noQ_enc
  have DB : Hid (∀ s, encS s = (b, 0) → svMay s = true ∧ bytN (numsS s) = (unwrapF b).1) := fun s h => ⟨(enc_back h).2.1, by rw [(enc_back h).1]⟩
  have UL := unwrap_len b
  have UB : Hid (∀ x ∈ (unwrapF b).1, 0 ≤ x ∧ x ≤ 255) := unwrapF_bytes hx
  have CU : Hid (∀ X, Reads .u8 X (.slice va b.length vc) b → Calls Tryd.prog 47 #[.slice va b.length vc] X fun e w' => ∃ v', e = .returned (.tuple #[v', .int .i64 (unwrapF b).2.1, .int .i64 (unwrapF b).2.2]) ∧ w'.ownsRow X.heap.size 5 1 v' (unwrapF b).1.length ((unwrapF b).1.map (Value.int .u8)) ∧ Below X.heap.size X w') := fun X hX => unwrapped_any _ b X hX HX.out
  have R0 : Hid (Reads .u8 W0 (.slice va b.length vc) b) := HR.out.below B0.out (Nat.le_refl _)
  clear Q0 hr hx HR
  generalize unwrapF b = U at *
  obtain ⟨pl, us, ue⟩ := U
  simp only at UL
  generalize decS b = D at *
  go_enter Tryd.func27, Tryd.ntmps27
  go_upto_region 1 with fail
  rw [← hW0]
  clear hW0
  go_wp2_with fail
  refine (CU.out _ R0.out).mono ?_
  rintro e w1 ⟨v1, rfl, ho1, hb1⟩
  have A1 : Hid (Below W0.heap.size W0 w1) := hb1
  have hs1 := hb1.size
  obtain ⟨pa, pc, rfl⟩ := own_slice ho1
  have R1 : Hid (Reads .u8 w1 (.slice pa pl.length pc) pl) := reads_own ho1
  have LT1 : Hid (∀ a n c, (.slice pa pl.length pc : Value) = .slice (some a) n c → a.block < w1.heap.size) := fun a n c e => by
    injection e with e
    subst e
    rcases own_shapeK ho1 with ⟨e, _⟩ | ⟨g', c', e, _, h2, _⟩
    · injection e with e; cases e
    · injection e with e; injection e with e; subst e; exact h2
  clear ho1 hb1
  by_cases hu : ue = 0
  case neg =>
    have hd := DE.out hu
    have tz : (ue != 0) = true := by simp [hu]
    obtain ⟨zz, zb⟩ := ZX.out _ A1.out
    have ZR : Hid (BX 34 (putS w1 w.heap.size (.int .i64 0) (.int .i64 0) (.bool false) (.slice none 0 0) (.slice none 0 0)) w.heap.size #[.int .i64 0, .int .i64 0, .bool false, .slice none 0 0, .slice none 0 0] ∧ Below w.heap.size w (putS w1 w.heap.size (.int .i64 0) (.int .i64 0) (.bool false) (.slice none 0 0) (.slice none 0 0))) := ⟨zz.putS, below_putS zb (Nat.le_refl _) _ _ _ _ _⟩
    obtain ⟨e0, e1, e2, e3, e4⟩ := zz.all5
    obtain ⟨f0, f1, f2, f3, f4⟩ := zz.all5f
    have HDD : Hid (D = (sv0, ue)) := hd
    clear hd zz zb
    go_wp2_with fail
    obtain ⟨r0, r1, r2, r3, r4⟩ := ZR.out.1.all5
    unfold putS at r0 r1 r2 r3 r4
    refine bodyPost_ret (v := .tuple #[.agg #[.int .i64 0, .int .i64 0, .bool false, .slice none 0 0, .slice none 0 0], .int .i64 ue]) (by simp [results, Tryd.results27, go_sem, r0, r1, r2, r3, r4]) rfl ?_
    rw [HDD.out]
    exact SvdP.no ZR.out.2
  case pos =>
    subst hu
    have HN3 : Hid ((∀ s, encS s ≠ (b, 0)) → D = (sv0, 3)) := DN.out rfl
    clear DE DN
    have hpl : pl.length ≤ 20000 := UL
    go_upto_region 5 with fail
    go_wp2_with fail
    go_loopw [7, 8] (fun vl at_ wr => ∃ l : List Int, wr.ownsRow w1.heap.size 3 1 vl l.length (l.flatMap encI) ∧ Below w1.heap.size w1 wr ∧ l.length ≤ 20001 ∧ (∀ x ∈ l, 0 ≤ x ∧ x ≤ 1152921504606846976) ∧ ((∃ i : Nat, at_ = .int .i64 (i : Int) ∧ i ≤ pl.length ∧ l.length ≤ i ∧ rdQ pl l i) ∨ (at_ = .int .i64 (-1) ∧ noQ pl))) (fun _ at_ _ => if intOf at_ < 0 then 0 else pl.length + 1 - (intOf at_).toNat)
    case atStart => exact ⟨[], World.ownsRow_nil _ _ _ _, Below.refl _ _, by simp, by simp, .inl ⟨0, rfl, by omega, by simp, rdQ_nil _⟩⟩
    case round =>
      obtain ⟨l, hol, hbl, hll, hlx, hst⟩ := hrel
      have OL : Hid (wr.ownsRow w1.heap.size 3 1 _ l.length (l.flatMap encI)) := hol
      have BL : Hid (Below w1.heap.size w1 wr) := hbl
      have LX : Hid (∀ x ∈ l, 0 ≤ x ∧ x ≤ 1152921504606846976) := hlx
      have hsr := hbl.size
      obtain ⟨la, lc, rfl⟩ := own_slice hol
      clear hol hbl hlx
      rcases hst with ⟨i, rfl, hi, hli, hq⟩ | ⟨rfl, hno⟩
      · have RQ : Hid (rdQ pl l i) := hq
        clear hq
        by_cases hlt : i < pl.length
        · have hlt' : (i : Int) < (pl.length : Int) := by omega
          have hi0 : (0 : Int) ≤ (i : Int) := by omega
          have SM : Hid (∀ X, X = wr → _) := fun X (_ : X = wr) => small_any (.slice pa pl.length pc) pl i 1152921504606846976 wr (R1.out.below BL.out (Nat.le_refl _)) UB.out hi (by omega) (by omega)
          go_wp2_with fail
          refine (SM.out _ rfl).mono ?_
          rintro e w2 ⟨hs, e2⟩
          have e2' : wr = w2 := e2.symm
          subst e2'
          clear e2 SM
          unfold SmlP at hs
          rcases hs with ⟨hn, rfl⟩ | ⟨x, i2, hn, hi1, hi2, rfl⟩
          · have NQ : Hid (noQ pl) := rdQ_none RQ.out hlt hn
            clear hn
            go_wp2_with (at_builtin; refine wpList_append_newK kI rfl _ _ rfl w1.heap.size _ l rfl (OL.out.alloc _) _ (0 : Int) rfl #[.int .i64 0] rfl (0, 0) (heap_alloc_new _ _) (by simp only [kI]; omega) (by unfold maxLen; omega) (by simp; omega) ?_)
            intro g gc w' hown hbel _
            have OW : Hid (w'.ownsRow w1.heap.size 3 1 (.slice (some ⟨g, 0, none⟩) (l.length + 1) gc) (l ++ [0]).length ((l ++ [0]).flatMap encI)) := by show World.ownsRow _ _ _ _ _ _ _; simpa [kI] using hown
            have BW : Hid (Below w1.heap.size w1 w') := (BL.out.alloc hsr _).trans hbel
            clear hown hbel
            go_wp2_with fail
            go_roundw
            case rel => exact ⟨l ++ [0], OW.out, BW.out, by simp; omega, fun x hx => by rcases List.mem_append.1 hx with h | h; exact LX.out x h; rw [List.mem_singleton.1 h]; omega, .inr ⟨rfl, NQ.out⟩⟩
            case measure =>
              show (if ((-1 : Int)) < 0 then 0 else pl.length + 1 - ((-1 : Int)).toNat) < (if (i : Int) < 0 then 0 else pl.length + 1 - (i : Int).toNat)
              rw [if_pos (by decide), if_neg (by omega)]
              omega
          · have RS : Hid (rdQ pl (l ++ [x]) i2) := rdQ_step RQ.out hlt hn
            have hxb := numF_inv (fun y hy => UB.out y (List.mem_of_mem_drop hy)) hn
            have hx0 : 0 ≤ x ∧ x ≤ 1152921504606846976 := ⟨hxb.1, hxb.2.1⟩
            clear hn hxb
            go_wp2_with (at_builtin; refine wpList_append_newK kI rfl _ _ rfl w1.heap.size _ l rfl (OL.out.alloc _) _ x rfl #[.int .i64 x] rfl (0, 0) (heap_alloc_new _ _) (by simp only [kI]; omega) (by unfold maxLen; omega) (by simp; omega) ?_)
            intro g gc w' hown hbel _
            have OW : Hid (w'.ownsRow w1.heap.size 3 1 (.slice (some ⟨g, 0, none⟩) (l.length + 1) gc) (l ++ [x]).length ((l ++ [x]).flatMap encI)) := by show World.ownsRow _ _ _ _ _ _ _; simpa [kI] using hown
            have BW : Hid (Below w1.heap.size w1 w') := (BL.out.alloc hsr _).trans hbel
            clear hown hbel
            go_wp2_with fail
            go_roundw
            case rel => exact ⟨l ++ [x], OW.out, BW.out, by simp; omega, fun y hy => by rcases List.mem_append.1 hy with h | h; exact LX.out y h; rw [List.mem_singleton.1 h]; exact hx0, .inl ⟨i2, rfl, hi2, by simp; omega, RS.out⟩⟩
            case measure =>
              show (if (i2 : Int) < 0 then 0 else pl.length + 1 - (i2 : Int).toNat) < (if (i : Int) < 0 then 0 else pl.length + 1 - (i : Int).toNat)
              rw [if_neg (by omega), if_neg (by omega)]
              omega
        · have hlt' : ¬ (i : Int) < (pl.length : Int) := by omega
          have hi0 : (0 : Int) ≤ (i : Int) := by omega
          have hi1 : ¬ (i : Int) < 0 := by omega
          have EQ : Hid (∀ s, svMay s = true → bytN (numsS s) = pl → l = numsS s) := rdQ_end RQ.out (by omega)
          have AW : Hid (Below W0.heap.size W0 wr) := A1.out.trans (BL.out.mono hs1)
          by_cases h5 : l.length < 5
          · have h5' : (l.length : Int) < 5 := by omega
            have HDD : Hid (D = (sv0, 3)) := HN3.out fun s he => by
              have h1 := EQ.out s (DB.out s he).1 (DB.out s he).2
              have h2 := numsS_len s
              rw [h1] at h5
              omega
            obtain ⟨zz, zb⟩ := ZX.out wr AW.out
            have ZR : Hid (BX 34 (putS wr w.heap.size (.int .i64 0) (.int .i64 0) (.bool false) (.slice none 0 0) (.slice none 0 0)) w.heap.size #[.int .i64 0, .int .i64 0, .bool false, .slice none 0 0, .slice none 0 0] ∧ Below w.heap.size w (putS wr w.heap.size (.int .i64 0) (.int .i64 0) (.bool false) (.slice none 0 0) (.slice none 0 0))) := ⟨zz.putS, below_putS zb (Nat.le_refl _) _ _ _ _ _⟩
            obtain ⟨e0, e1, e2, e3, e4⟩ := zz.all5
            obtain ⟨f0, f1, f2, f3, f4⟩ := zz.all5f
            clear zz zb
            go_wp2_with fail
            obtain ⟨r0, r1, r2, r3, r4⟩ := ZR.out.1.all5
            unfold putS at r0 r1 r2 r3 r4
            refine bodyPost_ret (v := .tuple #[.agg #[.int .i64 0, .int .i64 0, .bool false, .slice none 0 0, .slice none 0 0], .int .i64 3]) (by simp [results, Tryd.results27, go_sem, r0, r1, r2, r3, r4]) rfl ?_
            rw [HDD.out]
            exact SvdP.no ZR.out.2
          · have h5' : ¬ (l.length : Int) < 5 := by omega
            obtain ⟨g, cap, hv, hgl⟩ : ∃ g cap, (.slice la l.length lc : Value) = .slice (some ⟨g, 0, none⟩) l.length cap ∧ g < wr.heap.size := by
              rcases own_shapeK OL.out with ⟨_, h0, _⟩ | ⟨g, cap, e, _, h2, _⟩
              · omega
              · exact ⟨g, cap, e, h2⟩
            injection hv with e1 _ e3
            subst e1 e3
            have LC : Hid (∀ X, Below wr.heap.size wr X → ∀ j, j < l.length → X.cell? ⟨g, j, none⟩ = some (.int .i64 (l.getD j 0))) := fun X hX j hj => (hX.cell (p := ⟨g, j, none⟩) hgl).trans (own_atN OL.out (by rw [List.getElem?_eq_getElem hj, List.getD_eq_getElem?_getD, List.getElem?_eq_getElem hj]; rfl))
            have hlm : (l.length : Int) ≤ 9223372036854775807 := by omega
            have b0 : Below wr.heap.size wr wr.drew := (Below.refl _ _).drew
            have HS0 : Hid (wr.drew.cell? ⟨g, 0, none⟩ = some (.int .i64 (l.getD 0 0)) ∧ wr.drew.cell? ⟨g, 1, none⟩ = some (.int .i64 (l.getD 1 0)) ∧ wr.drew.cell? ⟨g, 2, none⟩ = some (.int .i64 (l.getD 2 0))) := ⟨LC.out _ b0 0 (by omega), LC.out _ b0 1 (by omega), LC.out _ b0 2 (by omega)⟩
            have lne : ¬ l = [] := fun h => by rw [h] at h5; simp at h5
            have i0 : (0 : Int) < (l.length : Int) := by omega
            have i1 : (1 : Int) < (l.length : Int) := by omega
            have i2 : (2 : Int) < (l.length : Int) := by omega
            go_upto_region 12 with fail
            refine wp_region_held (S := fun V => (V.cell? ⟨g, 0, none⟩ = some (.int .i64 (l.getD 0 0)) ∧ V.cell? ⟨g, 1, none⟩ = some (.int .i64 (l.getD 1 0)) ∧ V.cell? ⟨g, 2, none⟩ = some (.int .i64 (l.getD 2 0)))) (by kernel_rfl) ?_
            simp only [List.size_toArray, List.length_cons, List.length_nil, Nat.reduceAdd]
            refine takeH (i := 0) (v := .slice (some ⟨g, 0, none⟩) l.length lc) (d := 54) rfl rfl (by kernel_rfl) (by kernel_rfl) (by kernel_rfl) (fun _ _ _ h => h) (by rfl) (fun V hV => by obtain ⟨v1, v2, v3⟩ := hV; go_simp) HS0.out ?_
            simp only [Act.put, List.setIfInBounds_toArray, List.set_cons_zero, List.set_cons_succ]
            refine takeH (i := 1) (v := .pointer (some ⟨g, 0, none⟩)) (d := 55) rfl rfl (by kernel_rfl) (by kernel_rfl) (by kernel_rfl) (fun _ _ _ h => h) (by rfl) (fun V hV => by obtain ⟨v1, v2, v3⟩ := hV; go_simp) HS0.out ?_
            simp only [Act.put, List.setIfInBounds_toArray, List.set_cons_zero, List.set_cons_succ]
            refine takeH (i := 2) (v := .int .i64 (l.getD 0 0)) (d := 56) rfl rfl (by kernel_rfl) (by kernel_rfl) (by kernel_rfl) (fun _ _ _ h => h) (by rfl) (fun V hV => by obtain ⟨v1, v2, v3⟩ := hV; go_simp) HS0.out ?_
            simp only [Act.put, List.setIfInBounds_toArray, List.set_cons_zero, List.set_cons_succ]
            refine takeH (i := 3) (v := .slice (some ⟨g, 0, none⟩) l.length lc) (d := 57) rfl rfl (by kernel_rfl) (by kernel_rfl) (by kernel_rfl) (fun _ _ _ h => h) (by rfl) (fun V hV => by obtain ⟨v1, v2, v3⟩ := hV; go_simp) HS0.out ?_
            simp only [Act.put, List.setIfInBounds_toArray, List.set_cons_zero, List.set_cons_succ]
            refine takeH (i := 4) (v := .pointer (some ⟨g, 1, none⟩)) (d := 58) rfl rfl (by kernel_rfl) (by kernel_rfl) (by kernel_rfl) (fun _ _ _ h => h) (by rfl) (fun V hV => by obtain ⟨v1, v2, v3⟩ := hV; go_simp) HS0.out ?_
            simp only [Act.put, List.setIfInBounds_toArray, List.set_cons_zero, List.set_cons_succ]
            refine takeH (i := 5) (v := .int .i64 (l.getD 1 0)) (d := 59) rfl rfl (by kernel_rfl) (by kernel_rfl) (by kernel_rfl) (fun _ _ _ h => h) (by rfl) (fun V hV => by obtain ⟨v1, v2, v3⟩ := hV; go_simp) HS0.out ?_
            simp only [Act.put, List.setIfInBounds_toArray, List.set_cons_zero, List.set_cons_succ]
            refine takeH (i := 6) (v := .slice (some ⟨g, 0, none⟩) l.length lc) (d := 60) rfl rfl (by kernel_rfl) (by kernel_rfl) (by kernel_rfl) (fun _ _ _ h => h) (by rfl) (fun V hV => by obtain ⟨v1, v2, v3⟩ := hV; go_simp) HS0.out ?_
            simp only [Act.put, List.setIfInBounds_toArray, List.set_cons_zero, List.set_cons_succ]
            refine takeH (i := 7) (v := .pointer (some ⟨g, 2, none⟩)) (d := 61) rfl rfl (by kernel_rfl) (by kernel_rfl) (by kernel_rfl) (fun _ _ _ h => h) (by rfl) (fun V hV => by obtain ⟨v1, v2, v3⟩ := hV; go_simp) HS0.out ?_
            simp only [Act.put, List.setIfInBounds_toArray, List.set_cons_zero, List.set_cons_succ]
            refine takeH (i := 8) (v := .int .i64 (l.getD 2 0)) (d := 62) rfl rfl (by kernel_rfl) (by kernel_rfl) (by kernel_rfl) (fun _ _ _ h => h) (by rfl) (fun V hV => by obtain ⟨v1, v2, v3⟩ := hV; go_simp) HS0.out ?_
            simp only [Act.put, List.setIfInBounds_toArray, List.set_cons_zero, List.set_cons_succ]
            refine takeH (i := 9) (v := .bool (l.getD 2 0 == 1)) (d := 63) rfl rfl (by kernel_rfl) (by kernel_rfl) (by kernel_rfl) (fun _ _ _ h => h) (by rfl) (fun V hV => by obtain ⟨v1, v2, v3⟩ := hV; go_simp) HS0.out ?_
            simp only [Act.put, List.setIfInBounds_toArray, List.set_cons_zero, List.set_cons_succ]
            refine takeH (i := 10) (v := .agg #[.int .i64 (l.getD 0 0), .int .i64 (l.getD 1 0), .bool (l.getD 2 0 == 1), .slice none 0 0, .slice none 0 0]) (d := 64) rfl rfl (by kernel_rfl) (by kernel_rfl) (by kernel_rfl) (fun _ _ _ h => h) (by rfl) (fun V hV => by obtain ⟨v1, v2, v3⟩ := hV; go_simp) HS0.out ?_
            simp only [Act.put, List.setIfInBounds_toArray, List.set_cons_zero, List.set_cons_succ]
            have KS : Hid (∀ X, Below wr.heap.size wr X → (X.cell? ⟨g, 0, none⟩ = some (.int .i64 (l.getD 0 0)) ∧ X.cell? ⟨g, 1, none⟩ = some (.int .i64 (l.getD 1 0)) ∧ X.cell? ⟨g, 2, none⟩ = some (.int .i64 (l.getD 2 0)))) := fun X hX => ⟨LC.out _ hX 0 (by omega), LC.out _ hX 1 (by omega), LC.out _ hX 2 (by omega)⟩
            have bA : Below wr.heap.size wr (wr.drew.alloc (.cells #[.int .i64 0, .int .i64 0, .bool false, .slice none 0 0, .slice none 0 0] 34)) := Below.alloc b0 (Nat.le_refl _) _
            have NX : BX 34 (wr.drew.alloc (.cells #[.int .i64 0, .int .i64 0, .bool false, .slice none 0 0, .slice none 0 0] 34)) wr.heap.size #[.int .i64 0, .int .i64 0, .bool false, .slice none 0 0, .slice none 0 0] := BX.new _ _ _
            obtain ⟨d0, d1, d2, d3, d4⟩ := NX.all5
            obtain ⟨e0, e1, e2, e3, e4⟩ := NX.all5f
            have N5 : Hid (Below wr.heap.size wr (putS (wr.drew.alloc (.cells #[.int .i64 0, .int .i64 0, .bool false, .slice none 0 0, .slice none 0 0] 34)) wr.heap.size (.int .i64 (l.getD 0 0)) (.int .i64 (l.getD 1 0)) (.bool (l.getD 2 0 == 1)) (.slice none 0 0) (.slice none 0 0)) ∧ BX 34 (putS (wr.drew.alloc (.cells #[.int .i64 0, .int .i64 0, .bool false, .slice none 0 0, .slice none 0 0] 34)) wr.heap.size (.int .i64 (l.getD 0 0)) (.int .i64 (l.getD 1 0)) (.bool (l.getD 2 0 == 1)) (.slice none 0 0) (.slice none 0 0)) wr.heap.size #[.int .i64 (l.getD 0 0), .int .i64 (l.getD 1 0), .bool (l.getD 2 0 == 1), .slice none 0 0, .slice none 0 0] ∧ wr.heap.size + 1 ≤ (putS (wr.drew.alloc (.cells #[.int .i64 0, .int .i64 0, .bool false, .slice none 0 0, .slice none 0 0] 34)) wr.heap.size (.int .i64 (l.getD 0 0)) (.int .i64 (l.getD 1 0)) (.bool (l.getD 2 0 == 1)) (.slice none 0 0) (.slice none 0 0)).heap.size) := ⟨below_putS bA (Nat.le_refl _) _ _ _ _ _, NX.putS, by unfold putS; simp⟩
            refine oneH (i := 11) rfl (by kernel_rfl) rfl (op_run (d := 11) (v' := .pointer (some ⟨wr.heap.size, 0, none⟩)) (w' := wr.drew.alloc (.cells #[.int .i64 0, .int .i64 0, .bool false, .slice none 0 0, .slice none 0 0] 34)) rfl (by go_simp) ⟨KS.out _ bA, ?_⟩)
            simp only [Act.put, List.setIfInBounds_toArray, List.set_cons_zero, List.set_cons_succ]
            refine oneH (i := 12) rfl (by kernel_rfl) rfl (op_skip (w' := putS (wr.drew.alloc (.cells #[.int .i64 0, .int .i64 0, .bool false, .slice none 0 0, .slice none 0 0] 34)) wr.heap.size (.int .i64 (l.getD 0 0)) (.int .i64 (l.getD 1 0)) (.bool (l.getD 2 0 == 1)) (.slice none 0 0) (.slice none 0 0)) rfl (by unfold putS; go_simp) ⟨KS.out _ N5.out.1, ?_⟩)
            refine wpAnyH_done (by kernel_rfl) ?_ _
            clear d0 d1 d2 d3 d4 e0 e1 e2 e3 e4 NX bA HS0 b0 KS
            generalize putS (wr.drew.alloc (.cells #[.int .i64 0, .int .i64 0, .bool false, .slice none 0 0, .slice none 0 0] 34)) wr.heap.size (.int .i64 (l.getD 0 0)) (.int .i64 (l.getD 1 0)) (.bool (l.getD 2 0 == 1)) (.slice none 0 0) (.slice none 0 0) = w5 at *
            obtain ⟨b2, hb2⟩ : ∃ b, b = wr.heap.size := ⟨_, rfl⟩
            rw [← hb2] at N5 ⊢
            have hWb : W0.heap.size ≤ b2 := by rw [hb2]; exact AW.out.size
            have LC2 : Hid (∀ X, Below b2 wr X → ∀ j, j < l.length → X.cell? ⟨g, j, none⟩ = some (.int .i64 (l.getD j 0))) := fun X hX => LC.out X (by rw [← hb2]; exact hX)
            have I5 : Hid (DcI wr w5 b2 (l.getD 0 0) (l.getD 1 0) (l.getD 2 0 == 1) (.slice none 0 0) (.slice none 0 0) [] []) := ⟨N5.out.2.1, World.ownsRow_nil _ _ _ _, World.ownsRow_nil _ _ _ _, N5.out.1, N5.out.2.2⟩
            clear LC N5 hb2 OL BL RQ
            have m3 := LC2.out w5 I5.out.low 3 (by omega)
            obtain ⟨x3, hx3⟩ : ∃ x, x = l.getD 3 0 := ⟨_, rfl⟩
            rw [← hx3] at m3
            have b3 : 0 ≤ x3 ∧ x3 ≤ 1152921504606846976 := by rw [hx3, List.getD_eq_getElem?_getD, List.getElem?_eq_getElem (show 3 < l.length by omega)]; exact LX.out _ (List.getElem_mem _)
            obtain ⟨m, rfl⟩ : ∃ m : Nat, x3 = (m : Int) := ⟨x3.toNat, by omega⟩
            have HX3 : Hid ((m : Int) = l.getD 3 0) := hx3
            clear hx3
            have i3 : (3 : Int) < (l.length : Int) := by omega
            have HVAL : Hid (∀ s, encS s = (b, 0) → l = numsS s ∧ m = s.vals.length ∧ l.length = 5 + 2 * s.vals.length + 2 * s.mail.length ∧ s.vals.length ≤ 200 ∧ svMay s = true) := fun s he => by
              have h1 := EQ.out s (DB.out s he).1 (DB.out s he).2
              have h3 := numsS_count s
              have h4 := (svMay_iff.1 (DB.out s he).1).2.1
              have h5 := HX3.out
              rw [h1, h3] at h5
              exact ⟨h1, by omega, by rw [h1]; exact numsS_len s, h4, (DB.out s he).1⟩
            generalize wr = w4 at *
            clear wr
            by_cases hm2 : m ≤ 200
            case neg =>
              have HDD : Hid (D = (sv0, 3)) := HN3.out fun s he => by obtain ⟨_, h2, _, h4, _⟩ := HVAL.out s he; omega
              have tg : (200 : Int) < (m : Int) := by omega
              have AZ : Hid (Below W0.heap.size W0 w5) := AW.out.trans (I5.out.low.mono hWb)
              obtain ⟨zz, zb⟩ := ZX.out w5 AZ.out
              have ZR : Hid (BX 34 (putS w5 w.heap.size (.int .i64 0) (.int .i64 0) (.bool false) (.slice none 0 0) (.slice none 0 0)) w.heap.size #[.int .i64 0, .int .i64 0, .bool false, .slice none 0 0, .slice none 0 0] ∧ Below w.heap.size w (putS w5 w.heap.size (.int .i64 0) (.int .i64 0) (.bool false) (.slice none 0 0) (.slice none 0 0))) := ⟨zz.putS, below_putS zb (Nat.le_refl _) _ _ _ _ _⟩
              obtain ⟨e0, e1, e2, e3, e4⟩ := zz.all5
              obtain ⟨f0, f1, f2, f3, f4⟩ := zz.all5f
              clear zz zb
              go_wp2_with fail
              obtain ⟨r0, r1, r2, r3, r4⟩ := ZR.out.1.all5
              unfold putS at r0 r1 r2 r3 r4
              refine bodyPost_ret (v := .tuple #[.agg #[.int .i64 0, .int .i64 0, .bool false, .slice none 0 0, .slice none 0 0], .int .i64 3]) (by simp [results, Tryd.results27, go_sem, r0, r1, r2, r3, r4]) rfl ?_
              rw [HDD.out]
              exact SvdP.no ZR.out.2
            case pos =>
              have tg : ¬ (200 : Int) < (m : Int) := by omega
              obtain ⟨m2, hm21, hm22⟩ : ∃ m2 : Nat, m2 ≤ 2 * m ∧ 2 * m ≤ m2 := ⟨2 * m, by omega, by omega⟩
              obtain ⟨m5, hm51, hm52⟩ : ∃ m5 : Nat, m5 ≤ 5 + 2 * m ∧ 5 + 2 * m ≤ m5 := ⟨5 + 2 * m, by omega, by omega⟩
              have ww1 : IntKind.i64.wrap (2 * (m : Int)) = (m2 : Int) := by rw [IntKind.wrap_i64]; omega
              have ww2 : IntKind.i64.wrap (5 + (m2 : Int)) = (m5 : Int) := by rw [IntKind.wrap_i64]; omega
              by_cases hm3 : m5 ≤ l.length
              case neg =>
                have HDD : Hid (D = (sv0, 3)) := HN3.out fun s he => by obtain ⟨_, h2, h3, _, _⟩ := HVAL.out s he; omega
                have tl : (l.length : Int) < (m5 : Int) := by omega
                have AZ : Hid (Below W0.heap.size W0 w5) := AW.out.trans (I5.out.low.mono hWb)
                obtain ⟨zz, zb⟩ := ZX.out w5 AZ.out
                have ZR : Hid (BX 34 (putS w5 w.heap.size (.int .i64 0) (.int .i64 0) (.bool false) (.slice none 0 0) (.slice none 0 0)) w.heap.size #[.int .i64 0, .int .i64 0, .bool false, .slice none 0 0, .slice none 0 0] ∧ Below w.heap.size w (putS w5 w.heap.size (.int .i64 0) (.int .i64 0) (.bool false) (.slice none 0 0) (.slice none 0 0))) := ⟨zz.putS, below_putS zb (Nat.le_refl _) _ _ _ _ _⟩
                obtain ⟨e0, e1, e2, e3, e4⟩ := zz.all5
                obtain ⟨f0, f1, f2, f3, f4⟩ := zz.all5f
                clear zz zb
                go_wp2_with fail
                obtain ⟨r0, r1, r2, r3, r4⟩ := ZR.out.1.all5
                unfold putS at r0 r1 r2 r3 r4
                refine bodyPost_ret (v := .tuple #[.agg #[.int .i64 0, .int .i64 0, .bool false, .slice none 0 0, .slice none 0 0], .int .i64 3]) (by simp [results, Tryd.results27, go_sem, r0, r1, r2, r3, r4]) rfl ?_
                rw [HDD.out]
                exact SvdP.no ZR.out.2
              case pos =>
                have tl : ¬ (l.length : Int) < (m5 : Int) := by omega
                go_upto_region 16 with fail
                clear tl tg m3 i3 b3
                go_wp2_with fail
                go_loopw [13] (fun i wr => ∃ (k : Nat) (vv : Value), k ≤ m ∧ i = .int .i64 k ∧ DcI w4 wr b2 (l.getD 0 0) (l.getD 1 0) (l.getD 2 0 == 1) vv (.slice none 0 0) (valsD l k) []) (fun i _ => m - (intOf i).toNat)
                case atStart => exact ⟨0, _, by omega, rfl, I5.out⟩
                case round =>
                  obtain ⟨k, vx, hk, rfl, hi⟩ := hrel
                  have PI0 : Hid (DcI w4 wr b2 (l.getD 0 0) (l.getD 1 0) (l.getD 2 0 == 1) vx (.slice none 0 0) (valsD l k) []) := hi
                  clear hi
                  by_cases hlt : k < m
                  · have hlt' : (k : Int) < (m : Int) := by omega
                    obtain ⟨y1, hy1⟩ : ∃ y, y = l.getD (4 + 2 * k) 0 := ⟨_, rfl⟩
                    obtain ⟨y2, hy2⟩ : ∃ y, y = l.getD (5 + 2 * k) 0 := ⟨_, rfl⟩
                    obtain ⟨k2, hk21, hk22⟩ : ∃ x : Nat, x ≤ 2 * k ∧ 2 * k ≤ x := ⟨2 * k, by omega, by omega⟩
                    obtain ⟨k4, hk4⟩ : ∃ x : Nat, x = 4 + 2 * k := ⟨_, rfl⟩
                    obtain ⟨k5, hk5⟩ : ∃ x : Nat, x = 5 + 2 * k := ⟨_, rfl⟩
                    have HS : Hid (valsD l (k + 1) = valsD l k ++ [(IntKind.i64.wrap (y1 - 1), IntKind.i64.wrap (y2 - 1))]) := by show _ = _; rw [hy1, hy2]; exact valsD_snoc l k
                    rw [← hk4] at hy1
                    rw [← hk5] at hy2
                    have Y1 : Hid (y1 = l.getD k4 0) := hy1
                    have Y2 : Hid (y2 = l.getD k5 0) := hy2
                    have o4 : k4 ≤ 4 + 2 * k ∧ 4 + 2 * k ≤ k4 := by omega
                    have o5 : k5 ≤ 5 + 2 * k ∧ 5 + 2 * k ≤ k5 := by omega
                    clear hy1 hy2 hk4 hk5
                    have wk1 : IntKind.i64.wrap (2 * (k : Int)) = (k2 : Int) := by rw [IntKind.wrap_i64]; omega
                    have wk2 : IntKind.i64.wrap (4 + (k2 : Int)) = (k4 : Int) := by rw [IntKind.wrap_i64]; omega
                    have wk3 : IntKind.i64.wrap (5 + (k2 : Int)) = (k5 : Int) := by rw [IntKind.wrap_i64]; omega
                    have z4 : (0 : Int) ≤ (k4 : Int) := by omega
                    have z5 : (0 : Int) ≤ (k5 : Int) := by omega
                    have l4 : (k4 : Int) < (l.length : Int) := by omega
                    have l5 : (k5 : Int) < (l.length : Int) := by omega
                    have hG0 : (valsD l k).length ≤ k ∧ k ≤ (valsD l k).length := by rw [valsD_len]; omega
                    generalize valsD l k = g1 at *
                    obtain ⟨xa, xc, rfl⟩ := (RowK.own encM_len PI0.out.vals : MlR wr vx g1).shape
                    have PD : Hid (DcI w4 wr.drew b2 (l.getD 0 0) (l.getD 1 0) (l.getD 2 0 == 1) (.slice xa g1.length xc) (.slice none 0 0) g1 []) := PI0.out.drew
                    have KS : Hid (∀ X, DcI w4 X b2 (l.getD 0 0) (l.getD 1 0) (l.getD 2 0 == 1) (.slice xa g1.length xc) (.slice none 0 0) g1 [] → (X.cell? ⟨b2, 3, none⟩ = some (.slice xa g1.length xc) ∧ X.cell? ⟨g, k4, none⟩ = some (.int .i64 y1) ∧ X.cell? ⟨g, k5, none⟩ = some (.int .i64 y2))) := fun X hX => ⟨hX.box.all5.2.2.2.1, (LC2.out _ hX.low k4 (by omega)).trans (by rw [Y1.out]), (LC2.out _ hX.low k5 (by omega)).trans (by rw [Y2.out])⟩
                    clear PI0
                    go_upto_region 19 with fail
                    refine region_lastF (S := fun V => (V.cell? ⟨b2, 3, none⟩ = some (.slice xa g1.length xc) ∧ V.cell? ⟨g, k4, none⟩ = some (.int .i64 y1) ∧ V.cell? ⟨g, k5, none⟩ = some (.int .i64 y2))) (by kernel_rfl) (by kernel_rfl) (by kernel_rfl) (by kernel_rfl) ?_
                    simp only [List.pop_toArray, List.dropLast_cons_cons, List.dropLast_singleton, List.size_toArray, List.length_cons, List.length_nil, Nat.reduceAdd]
                    refine takeH (i := 0) (v := .pointer (some ⟨b2, 3, none⟩)) (d := 84) rfl rfl (by kernel_rfl) (by kernel_rfl) (by kernel_rfl) (fun _ _ _ h => h) (by rfl) (fun V hV => by obtain ⟨v1, v2, v3⟩ := hV; go_simp) (KS.out _ PD.out) ?_
                    simp only [Act.put, List.setIfInBounds_toArray, List.set_cons_zero, List.set_cons_succ]
                    refine takeH (i := 1) (v := .slice xa g1.length xc) (d := 85) rfl rfl (by kernel_rfl) (by kernel_rfl) (by kernel_rfl) (fun _ _ _ h => h) (by rfl) (fun V hV => by obtain ⟨v1, v2, v3⟩ := hV; go_simp) (KS.out _ PD.out) ?_
                    simp only [Act.put, List.setIfInBounds_toArray, List.set_cons_zero, List.set_cons_succ]
                    refine takeH (i := 2) (v := .slice (some ⟨g, 0, none⟩) l.length lc) (d := 86) rfl rfl (by kernel_rfl) (by kernel_rfl) (by kernel_rfl) (fun _ _ _ h => h) (by rfl) (fun V hV => by obtain ⟨v1, v2, v3⟩ := hV; go_simp) (KS.out _ PD.out) ?_
                    simp only [Act.put, List.setIfInBounds_toArray, List.set_cons_zero, List.set_cons_succ]
                    refine takeH (i := 3) (v := .int .i64 (k : Int)) (d := 87) rfl rfl (by kernel_rfl) (by kernel_rfl) (by kernel_rfl) (fun _ _ _ h => h) (by rfl) (fun V hV => by obtain ⟨v1, v2, v3⟩ := hV; go_simp) (KS.out _ PD.out) ?_
                    simp only [Act.put, List.setIfInBounds_toArray, List.set_cons_zero, List.set_cons_succ]
                    refine takeH (i := 4) (v := .int .i64 (k2 : Int)) (d := 88) rfl rfl (by kernel_rfl) (by kernel_rfl) (by kernel_rfl) (fun _ _ _ h => h) (by rfl) (fun V hV => by obtain ⟨v1, v2, v3⟩ := hV; go_simp) (KS.out _ PD.out) ?_
                    simp only [Act.put, List.setIfInBounds_toArray, List.set_cons_zero, List.set_cons_succ]
                    refine takeH (i := 5) (v := .int .i64 (k4 : Int)) (d := 89) rfl rfl (by kernel_rfl) (by kernel_rfl) (by kernel_rfl) (fun _ _ _ h => h) (by rfl) (fun V hV => by obtain ⟨v1, v2, v3⟩ := hV; go_simp) (KS.out _ PD.out) ?_
                    simp only [Act.put, List.setIfInBounds_toArray, List.set_cons_zero, List.set_cons_succ]
                    refine takeH (i := 6) (v := .pointer (some ⟨g, k4, none⟩)) (d := 90) rfl rfl (by kernel_rfl) (by kernel_rfl) (by kernel_rfl) (fun _ _ _ h => h) (by rfl) (fun V hV => by obtain ⟨v1, v2, v3⟩ := hV; go_simp) (KS.out _ PD.out) ?_
                    simp only [Act.put, List.setIfInBounds_toArray, List.set_cons_zero, List.set_cons_succ]
                    refine takeH (i := 7) (v := .int .i64 y1) (d := 91) rfl rfl (by kernel_rfl) (by kernel_rfl) (by kernel_rfl) (fun _ _ _ h => h) (by rfl) (fun V hV => by obtain ⟨v1, v2, v3⟩ := hV; go_simp) (KS.out _ PD.out) ?_
                    simp only [Act.put, List.setIfInBounds_toArray, List.set_cons_zero, List.set_cons_succ]
                    refine takeH (i := 8) (v := .int .i64 (IntKind.i64.wrap (y1 - 1))) (d := 92) rfl rfl (by kernel_rfl) (by kernel_rfl) (by kernel_rfl) (fun _ _ _ h => h) (by rfl) (fun V hV => by obtain ⟨v1, v2, v3⟩ := hV; go_simp) (KS.out _ PD.out) ?_
                    simp only [Act.put, List.setIfInBounds_toArray, List.set_cons_zero, List.set_cons_succ]
                    refine takeH (i := 9) (v := .slice (some ⟨g, 0, none⟩) l.length lc) (d := 93) rfl rfl (by kernel_rfl) (by kernel_rfl) (by kernel_rfl) (fun _ _ _ h => h) (by rfl) (fun V hV => by obtain ⟨v1, v2, v3⟩ := hV; go_simp) (KS.out _ PD.out) ?_
                    simp only [Act.put, List.setIfInBounds_toArray, List.set_cons_zero, List.set_cons_succ]
                    refine takeH (i := 10) (v := .int .i64 (k : Int)) (d := 94) rfl rfl (by kernel_rfl) (by kernel_rfl) (by kernel_rfl) (fun _ _ _ h => h) (by rfl) (fun V hV => by obtain ⟨v1, v2, v3⟩ := hV; go_simp) (KS.out _ PD.out) ?_
                    simp only [Act.put, List.setIfInBounds_toArray, List.set_cons_zero, List.set_cons_succ]
                    refine takeH (i := 11) (v := .int .i64 (k2 : Int)) (d := 95) rfl rfl (by kernel_rfl) (by kernel_rfl) (by kernel_rfl) (fun _ _ _ h => h) (by rfl) (fun V hV => by obtain ⟨v1, v2, v3⟩ := hV; go_simp) (KS.out _ PD.out) ?_
                    simp only [Act.put, List.setIfInBounds_toArray, List.set_cons_zero, List.set_cons_succ]
                    refine takeH (i := 12) (v := .int .i64 (k5 : Int)) (d := 96) rfl rfl (by kernel_rfl) (by kernel_rfl) (by kernel_rfl) (fun _ _ _ h => h) (by rfl) (fun V hV => by obtain ⟨v1, v2, v3⟩ := hV; go_simp) (KS.out _ PD.out) ?_
                    simp only [Act.put, List.setIfInBounds_toArray, List.set_cons_zero, List.set_cons_succ]
                    refine takeH (i := 13) (v := .pointer (some ⟨g, k5, none⟩)) (d := 97) rfl rfl (by kernel_rfl) (by kernel_rfl) (by kernel_rfl) (fun _ _ _ h => h) (by rfl) (fun V hV => by obtain ⟨v1, v2, v3⟩ := hV; go_simp) (KS.out _ PD.out) ?_
                    simp only [Act.put, List.setIfInBounds_toArray, List.set_cons_zero, List.set_cons_succ]
                    refine takeH (i := 14) (v := .int .i64 y2) (d := 98) rfl rfl (by kernel_rfl) (by kernel_rfl) (by kernel_rfl) (fun _ _ _ h => h) (by rfl) (fun V hV => by obtain ⟨v1, v2, v3⟩ := hV; go_simp) (KS.out _ PD.out) ?_
                    simp only [Act.put, List.setIfInBounds_toArray, List.set_cons_zero, List.set_cons_succ]
                    refine takeH (i := 15) (v := .int .i64 (IntKind.i64.wrap (y2 - 1))) (d := 99) rfl rfl (by kernel_rfl) (by kernel_rfl) (by kernel_rfl) (fun _ _ _ h => h) (by rfl) (fun V hV => by obtain ⟨v1, v2, v3⟩ := hV; go_simp) (KS.out _ PD.out) ?_
                    simp only [Act.put, List.setIfInBounds_toArray, List.set_cons_zero, List.set_cons_succ]
                    refine takeH (i := 16) (v := .agg #[.int .i64 (IntKind.i64.wrap (y1 - 1)), .int .i64 (IntKind.i64.wrap (y2 - 1))]) (d := 100) rfl rfl (by kernel_rfl) (by kernel_rfl) (by kernel_rfl) (fun _ _ _ h => h) (by rfl) (fun V hV => by obtain ⟨v1, v2, v3⟩ := hV; go_simp) (KS.out _ PD.out) ?_
                    simp only [Act.put, List.setIfInBounds_toArray, List.set_cons_zero, List.set_cons_succ]
                    have PC : Hid (DcI w4 (wr.drew.alloc (.cells #[.int .i64 (IntKind.i64.wrap (y1 - 1)), .int .i64 (IntKind.i64.wrap (y2 - 1))] 73)) b2 (l.getD 0 0) (l.getD 1 0) (l.getD 2 0 == 1) (.slice xa g1.length xc) (.slice none 0 0) g1 []) := PD.out.alloc _
                    obtain ⟨gg, gc, wd, hrun, hown, hgr⟩ := run_append_newK kV (w := wr.drew.alloc (.cells #[.int .i64 (IntKind.i64.wrap (y1 - 1)), .int .i64 (IntKind.i64.wrap (y2 - 1))] 73)) 31 (b2 + 1) (.slice xa g1.length xc) g1 PC.out.vals wr.drew.heap.size (IntKind.i64.wrap (y1 - 1), IntKind.i64.wrap (y2 - 1)) #[.int .i64 (IntKind.i64.wrap (y1 - 1)), .int .i64 (IntKind.i64.wrap (y2 - 1))] rfl (0, 0) (heap_alloc_new _ _) (by simp only [kV]; omega) (by unfold maxLen; omega) PC.out.size
                    obtain ⟨bd, bl, PF0⟩ := PC.out.setV hgr hown
                    have PF : Hid (DcI w4 (wd.setCell ⟨b2, 3, none⟩ (.slice (some ⟨gg, 0, none⟩) (g1.length + 1) gc)) b2 (l.getD 0 0) (l.getD 1 0) (l.getD 2 0 == 1) (.slice (some ⟨gg, 0, none⟩) (g1.length + 1) gc) (.slice none 0 0) (g1 ++ [(IntKind.i64.wrap (y1 - 1), IntKind.i64.wrap (y2 - 1))]) []) := PF0
                    have cd : Hid (wd.cell? ⟨b2, 3, none⟩ = some (.slice xa g1.length xc) ∧ wd.cell? ⟨g, k4, none⟩ = some (.int .i64 y1) ∧ wd.cell? ⟨g, k5, none⟩ = some (.int .i64 y2)) := ⟨bd.all5.2.2.2.1, (LC2.out _ bl k4 (by omega)).trans (by rw [Y1.out]), (LC2.out _ bl k5 (by omega)).trans (by rw [Y2.out])⟩
                    have fd := bd.frozen 3
                    clear hgr hown bd bl PF0
                    refine oneH (i := 17) rfl (by kernel_rfl) rfl (op_run (d := 101) (v' := .slice (some ⟨wr.drew.heap.size, 0, none⟩) 1 1) (w' := wr.drew.alloc (.cells #[.int .i64 (IntKind.i64.wrap (y1 - 1)), .int .i64 (IntKind.i64.wrap (y2 - 1))] 73)) rfl (by go_simp) ⟨KS.out _ PC.out, ?_⟩)
                    simp only [Act.put, List.setIfInBounds_toArray, List.set_cons_zero, List.set_cons_succ]
                    refine oneH (i := 18) rfl (by kernel_rfl) rfl (call_append (d := 102) (s := .tmp 85) (x := .tmp 101) (t := 31) rfl rfl (v := .slice xa g1.length xc) (v2 := .slice (some ⟨wr.drew.heap.size, 0, none⟩) 1 1) (by simp [Act.eval]) (by simp [Act.eval]) hrun ⟨cd.out, ?_⟩)
                    simp only [Act.put, List.setIfInBounds_toArray, List.set_cons_zero, List.set_cons_succ]
                    refine takeH (i := 19) (v := .pointer (some ⟨b2, 3, none⟩)) (d := 103) rfl rfl (by kernel_rfl) (by kernel_rfl) (by kernel_rfl) (fun _ _ _ h => h) (by rfl) (fun V hV => by obtain ⟨v1, v2, v3⟩ := hV; go_simp) cd.out ?_
                    simp only [Act.put, List.setIfInBounds_toArray, List.set_cons_zero, List.set_cons_succ]
                    refine wpAnyH_done (by kernel_rfl) ?_ _
                    have cd1 := cd.out.1
                    clear hrun PC PD KS cd
                    show Oper.wp _ _ _ _ _ _
                    go_wp2_with fail
                    go_roundw
                    case rel => exact ⟨k + 1, _, by omega, by go_num, by rw [HS.out]; exact PF.out⟩
                    case measure => simp [intOf]; omega
                  · have hlt' : ¬ (k : Int) < (m : Int) := by omega
                    have e0 : k = m := by omega
                    have PE0 : Hid (DcI w4 wr b2 (l.getD 0 0) (l.getD 1 0) (l.getD 2 0 == 1) vx (.slice none 0 0) (valsD l m) []) := by rw [← e0]; exact PI0.out
                    clear PI0 e0 hk hlt
                    go_upto_region 20 with fail
                    clear hlt' I5
                    obtain ⟨j, hj1, hj2⟩ : ∃ j : Nat, 5 + 2 * m + 2 * j ≤ l.length ∧ l.length ≤ 5 + 2 * m + 2 * j + 1 := ⟨(l.length - (5 + 2 * m)) / 2, by omega, by omega⟩
                    have HDOC : Hid (∀ s, encS s = (b, 0) → s = docS l m j) := fun s he => by
                      obtain ⟨h1, h2, h3, _, h5⟩ := HVAL.out s he
                      have h6 : j = s.mail.length := by omega
                      rw [h1, h2, h6]
                      exact (docS_nums h5).symm
                    have HDV : Hid (docS l m j = ⟨l.getD 0 0, l.getD 1 0, l.getD 2 0 == 1, valsD l m, mailD l m j⟩) := rfl
                    have hG0 : (valsD l m).length ≤ m := by rw [valsD_len]; omega
                    generalize valsD l m = V at *
                    obtain ⟨ua, uc, rfl⟩ := (RowK.own encM_len PE0.out.vals : MlR wr vx V).shape
                    go_wp2_with fail
                    generalize hwr5 : wr = w6 at *
                    go_loopw [14] (fun i wr => ∃ (k i1 : Nat) (vm : Value), k ≤ j ∧ i = .int .i64 (i1 : Int) ∧ (i1 ≤ 5 + 2 * m + 2 * k ∧ 5 + 2 * m + 2 * k ≤ i1) ∧ DcI w4 wr b2 (l.getD 0 0) (l.getD 1 0) (l.getD 2 0 == 1) (.slice ua V.length uc) vm V (mailD l m k)) (fun i _ => l.length + 2 - (intOf i).toNat)
                    case atStart => exact ⟨0, m5, _, by omega, rfl, ⟨by omega, by omega⟩, PE0.out⟩
                    case round =>
                      obtain ⟨k, i1, vx, hk, rfl, ⟨hi1, hi2⟩, hi⟩ := hrel
                      have PI0 : Hid (DcI w4 wr b2 (l.getD 0 0) (l.getD 1 0) (l.getD 2 0 == 1) (.slice ua V.length uc) vx V (mailD l m k)) := hi
                      clear hi
                      obtain ⟨i2, hi21⟩ : ∃ x : Nat, x ≤ i1 + 1 ∧ i1 + 1 ≤ x := ⟨i1 + 1, by omega, by omega⟩
                      have wi1 : IntKind.i64.wrap ((i1 : Int) + 1) = (i2 : Int) := by rw [IntKind.wrap_i64]; omega
                      by_cases hlt : k < j
                      · have hlt' : (i2 : Int) < (l.length : Int) := by omega
                        have hlt0 : (i1 : Int) < (l.length : Int) := by omega
                        have z4 : (0 : Int) ≤ (i1 : Int) := by omega
                        have z5 : (0 : Int) ≤ (i2 : Int) := by omega
                        obtain ⟨i3, hi31⟩ : ∃ x : Nat, x ≤ i1 + 2 ∧ i1 + 2 ≤ x := ⟨i1 + 2, by omega, by omega⟩
                        have wi2 : IntKind.i64.wrap ((i1 : Int) + 2) = (i3 : Int) := by rw [IntKind.wrap_i64]; omega
                        obtain ⟨y1, hy1⟩ : ∃ y, y = l.getD i1 0 := ⟨_, rfl⟩
                        obtain ⟨y2, hy2⟩ : ∃ y, y = l.getD i2 0 := ⟨_, rfl⟩
                        have Y1 : Hid (y1 = l.getD i1 0) := hy1
                        have Y2 : Hid (y2 = l.getD i2 0) := hy2
                        have HS : Hid (mailD l m (k + 1) = mailD l m k ++ [(y1, y2)]) := by
                          have q1 : i1 = 5 + 2 * m + 2 * k := by omega
                          have q2 : i2 = 6 + 2 * m + 2 * k := by omega
                          show _ = _
                          rw [hy1, hy2, q1, q2]
                          exact mailD_snoc l m k
                        clear hy1 hy2
                        have hG1 : (mailD l m k).length ≤ k ∧ k ≤ (mailD l m k).length := by rw [mailD_len]; omega
                        generalize mailD l m k = g1 at *
                        obtain ⟨xa, xc, rfl⟩ := (RowK.own encM_len PI0.out.mail : MlR wr vx g1).shape
                        have PD : Hid (DcI w4 wr.drew b2 (l.getD 0 0) (l.getD 1 0) (l.getD 2 0 == 1) (.slice ua V.length uc) (.slice xa g1.length xc) V g1) := PI0.out.drew
                        have KS : Hid (∀ X, DcI w4 X b2 (l.getD 0 0) (l.getD 1 0) (l.getD 2 0 == 1) (.slice ua V.length uc) (.slice xa g1.length xc) V g1 → (X.cell? ⟨b2, 4, none⟩ = some (.slice xa g1.length xc) ∧ X.cell? ⟨g, i1, none⟩ = some (.int .i64 y1) ∧ X.cell? ⟨g, i2, none⟩ = some (.int .i64 y2))) := fun X hX => ⟨hX.box.all5.2.2.2.2, (LC2.out _ hX.low i1 (by omega)).trans (by rw [Y1.out]), (LC2.out _ hX.low i2 (by omega)).trans (by rw [Y2.out])⟩
                        clear PI0
                        go_upto_region 23 with fail
                        refine region_lastF (S := fun V => (V.cell? ⟨b2, 4, none⟩ = some (.slice xa g1.length xc) ∧ V.cell? ⟨g, i1, none⟩ = some (.int .i64 y1) ∧ V.cell? ⟨g, i2, none⟩ = some (.int .i64 y2))) (by kernel_rfl) (by kernel_rfl) (by kernel_rfl) (by kernel_rfl) ?_
                        simp only [List.pop_toArray, List.dropLast_cons_cons, List.dropLast_singleton, List.size_toArray, List.length_cons, List.length_nil, Nat.reduceAdd]
                        refine takeH (i := 0) (v := .pointer (some ⟨b2, 4, none⟩)) (d := 114) rfl rfl (by kernel_rfl) (by kernel_rfl) (by kernel_rfl) (fun _ _ _ h => h) (by rfl) (fun V hV => by obtain ⟨v1, v2, v3⟩ := hV; go_simp) (KS.out _ PD.out) ?_
                        simp only [Act.put, List.setIfInBounds_toArray, List.set_cons_zero, List.set_cons_succ]
                        refine takeH (i := 1) (v := .slice xa g1.length xc) (d := 115) rfl rfl (by kernel_rfl) (by kernel_rfl) (by kernel_rfl) (fun _ _ _ h => h) (by rfl) (fun V hV => by obtain ⟨v1, v2, v3⟩ := hV; go_simp) (KS.out _ PD.out) ?_
                        simp only [Act.put, List.setIfInBounds_toArray, List.set_cons_zero, List.set_cons_succ]
                        refine takeH (i := 2) (v := .slice (some ⟨g, 0, none⟩) l.length lc) (d := 116) rfl rfl (by kernel_rfl) (by kernel_rfl) (by kernel_rfl) (fun _ _ _ h => h) (by rfl) (fun V hV => by obtain ⟨v1, v2, v3⟩ := hV; go_simp) (KS.out _ PD.out) ?_
                        simp only [Act.put, List.setIfInBounds_toArray, List.set_cons_zero, List.set_cons_succ]
                        refine takeH (i := 3) (v := .int .i64 (i1 : Int)) (d := 117) rfl rfl (by kernel_rfl) (by kernel_rfl) (by kernel_rfl) (fun _ _ _ h => h) (by rfl) (fun V hV => by obtain ⟨v1, v2, v3⟩ := hV; go_simp) (KS.out _ PD.out) ?_
                        simp only [Act.put, List.setIfInBounds_toArray, List.set_cons_zero, List.set_cons_succ]
                        refine takeH (i := 4) (v := .pointer (some ⟨g, i1, none⟩)) (d := 118) rfl rfl (by kernel_rfl) (by kernel_rfl) (by kernel_rfl) (fun _ _ _ h => h) (by rfl) (fun V hV => by obtain ⟨v1, v2, v3⟩ := hV; go_simp) (KS.out _ PD.out) ?_
                        simp only [Act.put, List.setIfInBounds_toArray, List.set_cons_zero, List.set_cons_succ]
                        refine takeH (i := 5) (v := .int .i64 y1) (d := 119) rfl rfl (by kernel_rfl) (by kernel_rfl) (by kernel_rfl) (fun _ _ _ h => h) (by rfl) (fun V hV => by obtain ⟨v1, v2, v3⟩ := hV; go_simp) (KS.out _ PD.out) ?_
                        simp only [Act.put, List.setIfInBounds_toArray, List.set_cons_zero, List.set_cons_succ]
                        refine takeH (i := 6) (v := .slice (some ⟨g, 0, none⟩) l.length lc) (d := 120) rfl rfl (by kernel_rfl) (by kernel_rfl) (by kernel_rfl) (fun _ _ _ h => h) (by rfl) (fun V hV => by obtain ⟨v1, v2, v3⟩ := hV; go_simp) (KS.out _ PD.out) ?_
                        simp only [Act.put, List.setIfInBounds_toArray, List.set_cons_zero, List.set_cons_succ]
                        refine takeH (i := 7) (v := .int .i64 (i1 : Int)) (d := 121) rfl rfl (by kernel_rfl) (by kernel_rfl) (by kernel_rfl) (fun _ _ _ h => h) (by rfl) (fun V hV => by obtain ⟨v1, v2, v3⟩ := hV; go_simp) (KS.out _ PD.out) ?_
                        simp only [Act.put, List.setIfInBounds_toArray, List.set_cons_zero, List.set_cons_succ]
                        refine takeH (i := 8) (v := .int .i64 (i2 : Int)) (d := 122) rfl rfl (by kernel_rfl) (by kernel_rfl) (by kernel_rfl) (fun _ _ _ h => h) (by rfl) (fun V hV => by obtain ⟨v1, v2, v3⟩ := hV; go_simp) (KS.out _ PD.out) ?_
                        simp only [Act.put, List.setIfInBounds_toArray, List.set_cons_zero, List.set_cons_succ]
                        refine takeH (i := 9) (v := .pointer (some ⟨g, i2, none⟩)) (d := 123) rfl rfl (by kernel_rfl) (by kernel_rfl) (by kernel_rfl) (fun _ _ _ h => h) (by rfl) (fun V hV => by obtain ⟨v1, v2, v3⟩ := hV; go_simp) (KS.out _ PD.out) ?_
                        simp only [Act.put, List.setIfInBounds_toArray, List.set_cons_zero, List.set_cons_succ]
                        refine takeH (i := 10) (v := .int .i64 y2) (d := 124) rfl rfl (by kernel_rfl) (by kernel_rfl) (by kernel_rfl) (fun _ _ _ h => h) (by rfl) (fun V hV => by obtain ⟨v1, v2, v3⟩ := hV; go_simp) (KS.out _ PD.out) ?_
                        simp only [Act.put, List.setIfInBounds_toArray, List.set_cons_zero, List.set_cons_succ]
                        refine takeH (i := 11) (v := .agg #[.int .i64 y1, .int .i64 y2]) (d := 125) rfl rfl (by kernel_rfl) (by kernel_rfl) (by kernel_rfl) (fun _ _ _ h => h) (by rfl) (fun V hV => by obtain ⟨v1, v2, v3⟩ := hV; go_simp) (KS.out _ PD.out) ?_
                        simp only [Act.put, List.setIfInBounds_toArray, List.set_cons_zero, List.set_cons_succ]
                        have PC : Hid (DcI w4 (wr.drew.alloc (.cells #[.int .i64 (y1), .int .i64 (y2)] 75)) b2 (l.getD 0 0) (l.getD 1 0) (l.getD 2 0 == 1) (.slice ua V.length uc) (.slice xa g1.length xc) V g1) := PD.out.alloc _
                        obtain ⟨gg, gc, wd, hrun, hown, hgr⟩ := run_append_newK kM (w := wr.drew.alloc (.cells #[.int .i64 (y1), .int .i64 (y2)] 75)) 32 (b2 + 1) (.slice xa g1.length xc) g1 PC.out.mail wr.drew.heap.size (y1, y2) #[.int .i64 (y1), .int .i64 (y2)] rfl (0, 0) (heap_alloc_new _ _) (by simp only [kM]; omega) (by unfold maxLen; omega) PC.out.size
                        obtain ⟨bd, bl, PF0⟩ := PC.out.setM hgr hown
                        have PF : Hid (DcI w4 (wd.setCell ⟨b2, 4, none⟩ (.slice (some ⟨gg, 0, none⟩) (g1.length + 1) gc)) b2 (l.getD 0 0) (l.getD 1 0) (l.getD 2 0 == 1) (.slice ua V.length uc) (.slice (some ⟨gg, 0, none⟩) (g1.length + 1) gc) V (g1 ++ [(y1, y2)])) := PF0
                        have cd : Hid (wd.cell? ⟨b2, 4, none⟩ = some (.slice xa g1.length xc) ∧ wd.cell? ⟨g, i1, none⟩ = some (.int .i64 y1) ∧ wd.cell? ⟨g, i2, none⟩ = some (.int .i64 y2)) := ⟨bd.all5.2.2.2.2, (LC2.out _ bl i1 (by omega)).trans (by rw [Y1.out]), (LC2.out _ bl i2 (by omega)).trans (by rw [Y2.out])⟩
                        have fd := bd.frozen 4
                        clear hgr hown bd bl PF0
                        refine oneH (i := 12) rfl (by kernel_rfl) rfl (op_run (d := 126) (v' := .slice (some ⟨wr.drew.heap.size, 0, none⟩) 1 1) (w' := wr.drew.alloc (.cells #[.int .i64 (y1), .int .i64 (y2)] 75)) rfl (by go_simp) ⟨KS.out _ PC.out, ?_⟩)
                        simp only [Act.put, List.setIfInBounds_toArray, List.set_cons_zero, List.set_cons_succ]
                        refine oneH (i := 13) rfl (by kernel_rfl) rfl (call_append (d := 127) (s := .tmp 115) (x := .tmp 126) (t := 32) rfl rfl (v := .slice xa g1.length xc) (v2 := .slice (some ⟨wr.drew.heap.size, 0, none⟩) 1 1) (by simp [Act.eval]) (by simp [Act.eval]) hrun ⟨cd.out, ?_⟩)
                        simp only [Act.put, List.setIfInBounds_toArray, List.set_cons_zero, List.set_cons_succ]
                        refine takeH (i := 14) (v := .pointer (some ⟨b2, 4, none⟩)) (d := 128) rfl rfl (by kernel_rfl) (by kernel_rfl) (by kernel_rfl) (fun _ _ _ h => h) (by rfl) (fun V hV => by obtain ⟨v1, v2, v3⟩ := hV; go_simp) cd.out ?_
                        simp only [Act.put, List.setIfInBounds_toArray, List.set_cons_zero, List.set_cons_succ]
                        refine wpAnyH_done (by kernel_rfl) ?_ _
                        have cd1 := cd.out.1
                        clear hrun PC PD KS cd
                        show Oper.wp _ _ _ _ _ _
                        go_wp2_with fail
                        go_roundw
                        case rel => exact ⟨k + 1, i3, _, by omega, rfl, ⟨by omega, by omega⟩, by rw [HS.out]; exact PF.out⟩
                        case measure => simp [intOf]; omega
                      · have hlt' : ¬ (i2 : Int) < (l.length : Int) := by omega
                        have e0 : k = j := by omega
                        obtain ⟨S, hS⟩ : ∃ S, S = docS l m j := ⟨_, rfl⟩
                        have PE0 : DcI w4 wr b2 S.step S.phase S.fresh (.slice ua V.length uc) vx S.vals S.mail := by rw [hS, HDV.out, ← e0]; exact PI0.out
                        have hVS : V = S.vals := by rw [hS, HDV.out]
                        rw [hVS] at PE0 ⊢
                        rw [← hS] at HDOC
                        obtain ⟨ya, yc, rfl⟩ := (RowK.own encM_len PE0.mail : MlR wr vx S.mail).shape
                        have PE : Hid (DcI w4 wr b2 S.step S.phase S.fresh (.slice ua S.vals.length uc) (.slice ya S.mail.length yc) S.vals S.mail) := PE0
                        clear PI0 e0 hk hlt PE0 hS hVS HDV
                        go_upto_region 24 with fail
                        clear hlt'
                        have AW7 : Hid (Below W0.heap.size W0 wr) := AW.out.trans (PE.out.low.mono hWb)
                        have CE : Hid (∀ X, X = wr → _) := fun X (_ : X = wr) => savedBytes_any S (.slice ua S.vals.length uc) (.slice ya S.mail.length yc) wr (RowK.own encM_len PE.out.vals) (RowK.own encM_len PE.out.mail)
                        have EB : Hid (∀ x ∈ (encS S).1, 0 ≤ x ∧ x ≤ 255) := encS_bd S
                        have ES : Hid (encS S = (b, 0) → D = (S, 0)) := DY.out S
                        have EN : Hid (encS S ≠ (b, 0) → D = (sv0, 3)) := fun h => HN3.out fun s he => h (by rw [← HDOC.out s he]; exact he)
                        have hsr := AW7.out.size
                        obtain ⟨c0, c1, c2, c3, c4⟩ := PE.out.box.all5
                        clear DY DQ DB HDOC HN3
                        generalize encS S = E at *
                        obtain ⟨eb, ee⟩ := E
                        go_wp2_with fail
                        refine (CE.out _ rfl).mono ?_
                        rintro e w7 ⟨ve, rfl, ho7, hb7⟩
                        obtain ⟨ea, ec, rfl⟩ := own_slice ho7
                        have R7 : Hid (Reads .u8 w7 (.slice ea eb.length ec) eb) := reads_own ho7
                        have A7 : Hid (Below W0.heap.size W0 w7) := AW7.out.trans (hb7.mono hsr)
                        have X7 : Hid (BX 34 w7 b2 #[.int .i64 S.step, .int .i64 S.phase, .bool S.fresh, .slice ua S.vals.length uc, .slice ya S.mail.length yc]) := PE.out.box.below hb7 PE.out.box.lt
                        have V7 : Hid (w7.ownsRow W0.heap.size 73 2 (.slice ua S.vals.length uc) S.vals.length (S.vals.flatMap encM)) := own_lower (own_below PE.out.vals hb7 (Nat.le_refl _)) (by omega)
                        have M7 : Hid (w7.ownsRow W0.heap.size 75 2 (.slice ya S.mail.length yc) S.mail.length (S.mail.flatMap encM)) := own_lower (own_below PE.out.mail hb7 (Nat.le_refl _)) (by omega)
                        have RB : Hid (Reads .u8 w7 (.slice va b.length vc) b) := R0.out.below A7.out (Nat.le_refl _)
                        obtain ⟨zz, zb⟩ := ZX.out _ A7.out
                        have ZR : Hid (BX 34 (putS w7 w.heap.size (.int .i64 0) (.int .i64 0) (.bool false) (.slice none 0 0) (.slice none 0 0)) w.heap.size #[.int .i64 0, .int .i64 0, .bool false, .slice none 0 0, .slice none 0 0] ∧ Below w.heap.size w (putS w7 w.heap.size (.int .i64 0) (.int .i64 0) (.bool false) (.slice none 0 0) (.slice none 0 0))) := ⟨zz.putS, below_putS zb (Nat.le_refl _) _ _ _ _ _⟩
                        have ZY : Hid (BX 34 (putS w7 w.heap.size (.int .i64 S.step) (.int .i64 S.phase) (.bool S.fresh) (.slice ua S.vals.length uc) (.slice ya S.mail.length yc)) w.heap.size #[.int .i64 S.step, .int .i64 S.phase, .bool S.fresh, .slice ua S.vals.length uc, .slice ya S.mail.length yc] ∧ (putS w7 w.heap.size (.int .i64 S.step) (.int .i64 S.phase) (.bool S.fresh) (.slice ua S.vals.length uc) (.slice ya S.mail.length yc)).ownsRow w.heap.size 73 2 (.slice ua S.vals.length uc) S.vals.length (S.vals.flatMap encM) ∧ (putS w7 w.heap.size (.int .i64 S.step) (.int .i64 S.phase) (.bool S.fresh) (.slice ua S.vals.length uc) (.slice ya S.mail.length yc)).ownsRow w.heap.size 75 2 (.slice ya S.mail.length yc) S.mail.length (S.mail.flatMap encM) ∧ Below w.heap.size w (putS w7 w.heap.size (.int .i64 S.step) (.int .i64 S.phase) (.bool S.fresh) (.slice ua S.vals.length uc) (.slice ya S.mail.length yc))) := ⟨zz.putS, own_lower (own_off V7.out zz (by decide) (kept_putS w7 w.heap.size _ _ _ _ _)) (by omega), own_lower (own_off M7.out zz (by decide) (kept_putS w7 w.heap.size _ _ _ _ _)) (by omega), below_putS zb (Nat.le_refl _) _ _ _ _ _⟩
                        obtain ⟨e0, e1, e2, e3, e4⟩ := zz.all5
                        obtain ⟨f0, f1, f2, f3, f4⟩ := zz.all5f
                        clear c0 c1 c2 c3 c4 zz zb ho7 hb7 CE
                        by_cases he : ee = 0
                        case neg =>
                          have HDD : Hid (D = (sv0, 3)) := EN.out (fun h => he (Prod.mk.inj h).2)
                          have tz : (ee != 0) = true := by simp [he]
                          go_wp2_with fail
                          obtain ⟨r0, r1, r2, r3, r4⟩ := ZR.out.1.all5
                          unfold putS at r0 r1 r2 r3 r4
                          refine bodyPost_ret (v := .tuple #[.agg #[.int .i64 0, .int .i64 0, .bool false, .slice none 0 0, .slice none 0 0], .int .i64 3]) (by simp [results, Tryd.results27, go_sem, r0, r1, r2, r3, r4]) rfl ?_
                          rw [HDD.out]
                          exact SvdP.no ZR.out.2
                        case pos =>
                          subst he
                          have ca := R7.out.convert
                          have cb := RB.out.convert
                          by_cases hq : eb = b
                          case neg =>
                            have HDD : Hid (D = (sv0, 3)) := EN.out (fun h => hq (Prod.mk.inj h).1)
                            have tq : ¬ (strOfNums eb).toList = (strOfNums b).toList := fun h => hq ((strOfNums_eq EB.out HX.out).1 h)
                            have tr : ((strOfNums eb).toList == (strOfNums b).toList) = false := by simpa using tq
                            clear hq
                            go_wp2_with fail
                            obtain ⟨r0, r1, r2, r3, r4⟩ := ZR.out.1.all5
                            unfold putS at r0 r1 r2 r3 r4
                            refine bodyPost_ret (v := .tuple #[.agg #[.int .i64 0, .int .i64 0, .bool false, .slice none 0 0, .slice none 0 0], .int .i64 3]) (by simp [results, Tryd.results27, go_sem, r0, r1, r2, r3, r4]) rfl ?_
                            rw [HDD.out]
                            exact SvdP.no ZR.out.2
                          case pos =>
                            have HDD : Hid (D = (S, 0)) := ES.out (by rw [hq])
                            have tq : (strOfNums eb).toList = (strOfNums b).toList := by rw [hq]
                            have tr : ((strOfNums eb).toList == (strOfNums b).toList) = true := by rw [hq]; simp
                            clear hq
                            obtain ⟨c0, c1, c2, c3, c4⟩ := X7.out.all5
                            go_wp2_with fail
                            obtain ⟨r0, r1, r2, r3, r4⟩ := ZY.out.1.all5
                            unfold putS at r0 r1 r2 r3 r4
                            refine bodyPost_ret (v := .tuple #[.agg #[.int .i64 S.step, .int .i64 S.phase, .bool S.fresh, .slice ua S.vals.length uc, .slice ya S.mail.length yc], .int .i64 0]) (by simp [results, Tryd.results27, go_sem, r0, r1, r2, r3, r4]) rfl ?_
                            rw [HDD.out]
                            exact ⟨_, _, rfl, ZY.out.2.1, ZY.out.2.2.1, ZY.out.2.2.2⟩
      · have HDD : Hid (D = (sv0, 3)) := HN3.out (DQ.out hno)
        have AW : Hid (Below W0.heap.size W0 wr) := A1.out.trans (BL.out.mono hs1)
        obtain ⟨zz, zb⟩ := ZX.out wr AW.out
        have ZR : Hid (BX 34 (putS wr w.heap.size (.int .i64 0) (.int .i64 0) (.bool false) (.slice none 0 0) (.slice none 0 0)) w.heap.size #[.int .i64 0, .int .i64 0, .bool false, .slice none 0 0, .slice none 0 0] ∧ Below w.heap.size w (putS wr w.heap.size (.int .i64 0) (.int .i64 0) (.bool false) (.slice none 0 0) (.slice none 0 0))) := ⟨zz.putS, below_putS zb (Nat.le_refl _) _ _ _ _ _⟩
        obtain ⟨e0, e1, e2, e3, e4⟩ := zz.all5
        obtain ⟨f0, f1, f2, f3, f4⟩ := zz.all5f
        clear zz zb
        go_wp2_with fail
        obtain ⟨r0, r1, r2, r3, r4⟩ := ZR.out.1.all5
        unfold putS at r0 r1 r2 r3 r4
        refine bodyPost_ret (v := .tuple #[.agg #[.int .i64 0, .int .i64 0, .bool false, .slice none 0 0, .slice none 0 0], .int .i64 3]) (by simp [results, Tryd.results27, go_sem, r0, r1, r2, r3, r4]) rfl ?_
        rw [HDD.out]
        exact SvdP.no ZR.out.2
end Go.Proofs.YthakibcfmbkpkaaDoor

namespace Go.Proofs.YthakibcfmbkpkaaDoor
set_option maxRecDepth 100000
open Go.ChangeShapes Go.WideShapes Go.ChangeAt Go.RowKit

theorem in_isL {v a b : Int} {t : Bool} (h : inB v a b = t) (w : World) : Calls Tryd.prog 19 #[.int .i64 v, .int .i64 a, .int .i64 b] w fun e w' => e = .returned (.bool t) ∧ w' = w := by
  have := in_any v a b w
  rwa [h] at this
set_option maxHeartbeats 4000000 in
set_option maxRecDepth 100000 in
theorem loadedSlot_any (v : Value) (fs : List FileL) (n : Int) (w : World) (h : DiskR w v fs) (hg : Good fs) :
    Calls Tryd.prog 11 #[.agg #[v], .int .i64 n] w (SvdP w (loadE fs n)) := by
  have HD : Hid (DiskR w v fs) := h
  have HG : Hid (Good fs) := hg
  obtain ⟨a, cap, rfl⟩ : ∃ a c, v = .slice a fs.length c := by obtain ⟨a, c, e, _⟩ := h; exact ⟨a, c, e⟩
  clear h hg
  obtain ⟨W0, hW0⟩ : ∃ W0, W0 = (w.alloc (.cells #[.slice a fs.length cap] 24)).alloc (.cells #[.int .i64 0, .int .i64 0, .bool false, .slice none 0 0, .slice none 0 0] 34) := ⟨_, rfl⟩
  obtain ⟨Q0, M0, B0, s1, s2⟩ := boxes2 w #[.slice a fs.length cap] #[.int .i64 0, .int .i64 0, .bool false, .slice none 0 0, .slice none 0 0] 24 34 W0 hW0
  have HK : Hid (∀ X, Below W0.heap.size W0 X → BX 24 X w.heap.size #[.slice a fs.length cap] ∧ BX 34 X (w.heap.size + 1) #[.int .i64 0, .int .i64 0, .bool false, .slice none 0 0, .slice none 0 0] ∧ Below w.heap.size w X ∧ DiskR X (.slice a fs.length cap) fs) := fun X hX => by
    have hb := B0.trans (hX.mono (show w.heap.size ≤ W0.heap.size by omega))
    exact ⟨Q0.below hX (by omega), M0.below hX (by omega), hb, HD.out.below hb (Nat.le_refl _)⟩
  have A0 : Hid (Below W0.heap.size W0 W0) := Below.refl _ _
  obtain ⟨q0, _⟩ := Q0.all1
  clear Q0 M0 B0
  have HN : Hid (∀ f, loadE fs n = (sv0, f) → ∀ w', Below w.heap.size w w' → SvdP w (loadE fs n) (.returned (.tuple #[.agg #[.int .i64 0, .int .i64 0, .bool false, .slice none 0 0, .slice none 0 0], .int .i64 f])) w') := fun f h w' hb => by rw [h]; exact SvdP.no hb
  have HY : Hid (∀ s f, loadE fs n = (s, f) → ∀ v1 v2 w', w'.ownsRow w.heap.size 73 2 v1 s.vals.length (s.vals.flatMap encM) → w'.ownsRow w.heap.size 75 2 v2 s.mail.length (s.mail.flatMap encM) → Below w.heap.size w w' → SvdP w (loadE fs n) (.returned (.tuple #[.agg #[.int .i64 s.step, .int .i64 s.phase, .bool s.fresh, v1, v2], .int .i64 f])) w') := fun s f h v1 v2 w' h1 h2 h3 => by rw [h]; exact SvdP.at h1 h2 h3
  generalize SvdP w (loadE fs n) = P at *
  by_cases hn : 0 ≤ n ∧ n ≤ 1
  case neg =>
    have HE : Hid (∀ w', Below w.heap.size w w' → P (.returned (.tuple #[.agg #[.int .i64 0, .int .i64 0, .bool false, .slice none 0 0, .slice none 0 0], .int .i64 2])) w') := HN.out 2 (loadE_no hn)
    have CN : Hid (∀ X, Calls Tryd.prog 19 #[.int .i64 n, .int .i64 0, .int .i64 1] X fun e w' => e = .returned (.bool false) ∧ w' = X) := fun X => in_isL (in_no hn) X
    clear HN HY hn
    go_enter Tryd.func11, Tryd.ntmps11
    go_upto_region 1 with fail
    rw [← hW0]
    clear hW0
    go_wp2_with fail
    refine (CN.out _).mono ?_
    rintro e w1 ⟨rfl, e1⟩
    have e1' : W0 = w1 := e1.symm
    subst e1'
    clear e1
    obtain ⟨m0, m1, m2, m3, m4⟩ := (HK.out _ A0.out).2.1.all5
    obtain ⟨f0, f1, f2, f3, f4⟩ := (HK.out _ A0.out).2.1.all5f
    have HX : Hid (P (.returned (.tuple #[.agg #[.int .i64 0, .int .i64 0, .bool false, .slice none 0 0, .slice none 0 0], .int .i64 2])) (putS W0 (w.heap.size + 1) (.int .i64 0) (.int .i64 0) (.bool false) (.slice none 0 0) (.slice none 0 0))) := HE.out _ (below_putS (HK.out _ A0.out).2.2.1 (Nat.le_succ _) _ _ _ _ _)
    have RX : Hid (BX 34 (putS W0 (w.heap.size + 1) (.int .i64 0) (.int .i64 0) (.bool false) (.slice none 0 0) (.slice none 0 0)) (w.heap.size + 1) #[.int .i64 0, .int .i64 0, .bool false, .slice none 0 0, .slice none 0 0]) := BX.putS (HK.out _ A0.out).2.1
    go_wp2_with fail
    obtain ⟨r0, r1, r2, r3, r4⟩ := RX.out.all5
    unfold putS at r0 r1 r2 r3 r4
    exact bodyPost_ret (v := .tuple #[.agg #[.int .i64 0, .int .i64 0, .bool false, .slice none 0 0, .slice none 0 0], .int .i64 2]) (by simp [results, Tryd.results11, go_sem, r0, r1, r2, r3, r4]) rfl HX.out
  have CN : Hid (∀ X, Calls Tryd.prog 19 #[.int .i64 n, .int .i64 0, .int .i64 1] X fun e w' => e = .returned (.bool true) ∧ w' = X) := fun X => in_isL (in_yes hn) X
  have CA : Hid (∀ X, Calls Tryd.prog 22 #[.int .i64 n] X fun e w' => ∃ v, e = .returned v ∧ (v = .string (slotB n) ∧ Below X.heap.size X w')) := fun X => (refSlot_yes n hn X).mono fun e w' h => ⟨_, h.1, rfl, h.2⟩
  have K1 : Hid (¬ (readF fs (slotB n)).2 = 0 → loadE fs n = (sv0, (readF fs (slotB n)).2)) := fun h => loadE_err hn h
  have K2 : Hid ((readF fs (slotB n)).2 = 0 → loadE fs n = decS (readF fs (slotB n)).1) := fun h => loadE_yes hn h
  have RB : Hid (∀ x ∈ (readF fs (slotB n)).1, 0 ≤ x ∧ x ≤ 255) := readF_bytes HG.out
  have CR : Hid (∀ X, DiskR X (.slice a fs.length cap) fs → Calls Tryd.prog 26 #[.agg #[.slice a fs.length cap], .string (slotB n)] X fun e w' => ∃ v, e = .returned v ∧ (∃ u, v = .tuple #[u, .int .i64 (readF fs (slotB n)).2] ∧ Reads .u8 w' u (readF fs (slotB n)).1 ∧ Below X.heap.size X w')) := fun X h => (readFile_any _ fs (slotB n) X h HG.out).mono fun e w' ⟨v', h1, h2, h3⟩ => ⟨_, h1, v', rfl, h2, h3⟩
  clear hn
  generalize readF fs (slotB n) = R1 at *
  obtain ⟨l, t1⟩ := R1
  simp only at K1 K2 RB CR
  generalize slotB n = sl at *
  have CD : Hid (∀ X v, Reads .u8 X v l → Calls Tryd.prog 27 #[v] X (SvdP X (decS l))) := fun X v h => savedOf_any v l X h RB.out
  replace HN : Hid (¬ t1 = 0 → ∀ w', Below w.heap.size w w' → P (.returned (.tuple #[.agg #[.int .i64 0, .int .i64 0, .bool false, .slice none 0 0, .slice none 0 0], .int .i64 t1])) w') := fun h => HN.out t1 (K1.out h)
  have HY2 : Hid (t1 = 0 → ∀ s f, decS l = (s, f) → ∀ v1 v2 w', w'.ownsRow w.heap.size 73 2 v1 s.vals.length (s.vals.flatMap encM) → w'.ownsRow w.heap.size 75 2 v2 s.mail.length (s.mail.flatMap encM) → Below w.heap.size w w' → P (.returned (.tuple #[.agg #[.int .i64 s.step, .int .i64 s.phase, .bool s.fresh, v1, v2], .int .i64 f])) w') := fun h s f h2 => HY.out s f ((K2.out h).trans h2)
  clear HY K1 K2
  generalize decS l = D at *
  obtain ⟨s, t2⟩ := D
  by_cases ht : t1 = 0
  case neg =>
    have HE : Hid (∀ w', Below w.heap.size w w' → P (.returned (.tuple #[.agg #[.int .i64 0, .int .i64 0, .bool false, .slice none 0 0, .slice none 0 0], .int .i64 t1])) w') := HN.out ht
    have tn : (t1 != 0) = true := by simp [ht]
    clear HN HY2 ht CD
    go_enter Tryd.func11, Tryd.ntmps11
    go_upto_region 1 with fail
    rw [← hW0]
    clear hW0
    go_wp2_with fail
    refine (CN.out _).mono ?_
    rintro e w1 ⟨rfl, e1⟩
    have e1' : W0 = w1 := e1.symm
    subst e1'
    clear e1
    go_upto_region 3 with fail
    have b0 : Below W0.heap.size W0 W0.drew := (Below.refl _ _).drew
    have KEEP : Hid (∀ V, Below W0.heap.size W0 V → V.cell? ⟨w.heap.size, 0, none⟩ = some (.slice a fs.length cap)) := fun V hV => (HK.out V hV).1.all1.1
    have HS0 : Hid (W0.drew.cell? ⟨w.heap.size, 0, none⟩ = some (.slice a fs.length cap)) := KEEP.out _ b0
    have ea : ∀ args w, (callFunc 22 args).run Tryd.prog w = .ok (.enter 22 args) w := enters_of Tryd.func22 (by kernel_rfl) rfl
    have eb : ∀ args w, (callFunc 26 args).run Tryd.prog w = .ok (.enter 26 args) w := enters_of Tryd.func26 (by kernel_rfl) rfl
    refine wp_region_held (S := fun V => V.cell? ⟨w.heap.size, 0, none⟩ = some (.slice a fs.length cap)) (by kernel_rfl) ?_
    simp only [List.size_toArray, List.length_cons, List.length_nil, Nat.reduceAdd]
    refine takeH (i := 0) (v := .agg #[.slice a fs.length cap]) (d := 15) rfl rfl (by kernel_rfl) (by kernel_rfl) (by kernel_rfl) (fun _ _ _ h => h) (by rfl) (fun V hV => by have v1 := hV; go_simp) HS0.out ?_
    simp only [Act.put, List.setIfInBounds_toArray, List.set_cons_zero, List.set_cons_succ]
    refine takeH (i := 1) (v := .int .i64 n) (d := 16) rfl rfl (by kernel_rfl) (by kernel_rfl) (by kernel_rfl) (fun _ _ _ h => h) (by rfl) (fun V hV => by have v1 := hV; go_simp) HS0.out ?_
    simp only [Act.put, List.setIfInBounds_toArray, List.set_cons_zero, List.set_cons_succ]
    refine oneH (i := 2) rfl (by kernel_rfl) rfl (call_gets (d := 17) (f := 22) (xs := #[.tmp 16]) (ats := #[3]) rfl rfl ea (vs := #[.int .i64 n]) (by simp [Act.eval]) (CA.out _) ?_)
    rintro vr wa ⟨rfl, hb⟩
    have wa_b : Below W0.heap.size W0 wa := b0.trans (hb.mono b0.size)
    refine ⟨KEEP.out _ wa_b, ?_⟩
    simp only [Act.put, List.setIfInBounds_toArray, List.set_cons_zero, List.set_cons_succ]
    clear hb
    refine oneH (i := 3) rfl (by kernel_rfl) rfl (call_gets (d := 18) (f := 26) (xs := #[.tmp 15, .tmp 17]) (ats := #[24, 9]) rfl rfl eb (vs := #[.agg #[.slice a fs.length cap], .string sl]) (by simp [Act.eval]) (CR.out _ (HK.out _ wa_b).2.2.2) ?_)
    rintro vr w2 ⟨v2, rfl, hr2, hb2⟩
    have hb2' : Below W0.heap.size W0 w2 := wa_b.trans (hb2.mono wa_b.size)
    obtain ⟨xa, xc, rfl⟩ : ∃ a c, v2 = .slice a l.length c := by obtain ⟨a, c, e, _⟩ := hr2; exact ⟨a, c, e⟩
    have HS2 : Hid (w2.cell? ⟨w.heap.size, 0, none⟩ = some (.slice a fs.length cap)) := KEEP.out _ hb2'
    refine ⟨HS2.out, ?_⟩
    simp only [Act.put, List.setIfInBounds_toArray, List.set_cons_zero, List.set_cons_succ]
    refine takeH (i := 4) (v := .tuple #[.slice xa l.length xc, .int .i64 t1]) (d := 14) rfl rfl (by kernel_rfl) (by kernel_rfl) (by kernel_rfl) (fun _ _ _ h => h) (by rfl) (fun V hV => by have v1 := hV; go_simp) HS2.out ?_
    simp only [Act.put, List.setIfInBounds_toArray, List.set_cons_zero, List.set_cons_succ]
    refine takeH (i := 5) (v := .slice xa l.length xc) (d := 19) rfl rfl (by kernel_rfl) (by kernel_rfl) (by kernel_rfl) (fun _ _ _ h => h) (by rfl) (fun V hV => by have v1 := hV; go_simp) HS2.out ?_
    simp only [Act.put, List.setIfInBounds_toArray, List.set_cons_zero, List.set_cons_succ]
    refine takeH (i := 6) (v := .int .i64 t1) (d := 20) rfl rfl (by kernel_rfl) (by kernel_rfl) (by kernel_rfl) (fun _ _ _ h => h) (by rfl) (fun V hV => by have v1 := hV; go_simp) HS2.out ?_
    simp only [Act.put, List.setIfInBounds_toArray, List.set_cons_zero, List.set_cons_succ]
    refine takeH (i := 7) (v := .slice xa l.length xc) (d := 6) rfl rfl (by kernel_rfl) (by kernel_rfl) (by kernel_rfl) (fun _ _ _ h => h) (by rfl) (fun V hV => by have v1 := hV; go_simp) HS2.out ?_
    simp only [Act.put, List.setIfInBounds_toArray, List.set_cons_zero, List.set_cons_succ]
    refine takeH (i := 8) (v := .int .i64 t1) (d := 7) rfl rfl (by kernel_rfl) (by kernel_rfl) (by kernel_rfl) (fun _ _ _ h => h) (by rfl) (fun V hV => by have v1 := hV; go_simp) HS2.out ?_
    simp only [Act.put, List.setIfInBounds_toArray, List.set_cons_zero, List.set_cons_succ]
    refine wpAnyH_done (by kernel_rfl) ?_ _
    have A2 : Hid (Below W0.heap.size W0 w2) := hb2'
    have R2 : Hid (Reads .u8 w2 (.slice xa l.length xc) l) := hr2
    clear hr2 hb2 hb2' wa_b q0 CR CN CA KEEP HS0 HS2 b0 ea eb
    obtain ⟨m0, m1, m2, m3, m4⟩ := (HK.out _ A2.out).2.1.all5
    obtain ⟨f0, f1, f2, f3, f4⟩ := (HK.out _ A2.out).2.1.all5f
    have HX : Hid (P (.returned (.tuple #[.agg #[.int .i64 0, .int .i64 0, .bool false, .slice none 0 0, .slice none 0 0], .int .i64 t1])) (putS w2 (w.heap.size + 1) (.int .i64 0) (.int .i64 0) (.bool false) (.slice none 0 0) (.slice none 0 0))) := HE.out _ (below_putS (HK.out _ A2.out).2.2.1 (Nat.le_succ _) _ _ _ _ _)
    have RX : Hid (BX 34 (putS w2 (w.heap.size + 1) (.int .i64 0) (.int .i64 0) (.bool false) (.slice none 0 0) (.slice none 0 0)) (w.heap.size + 1) #[.int .i64 0, .int .i64 0, .bool false, .slice none 0 0, .slice none 0 0]) := BX.putS (HK.out _ A2.out).2.1
    go_wp2_with fail
    obtain ⟨r0, r1, r2, r3, r4⟩ := RX.out.all5
    unfold putS at r0 r1 r2 r3 r4
    exact bodyPost_ret (v := .tuple #[.agg #[.int .i64 0, .int .i64 0, .bool false, .slice none 0 0, .slice none 0 0], .int .i64 t1]) (by simp [results, Tryd.results11, go_sem, r0, r1, r2, r3, r4]) rfl HX.out
  have HE : Hid (∀ v1 v2 w', w'.ownsRow w.heap.size 73 2 v1 s.vals.length (s.vals.flatMap encM) → w'.ownsRow w.heap.size 75 2 v2 s.mail.length (s.mail.flatMap encM) → Below w.heap.size w w' → P (.returned (.tuple #[.agg #[.int .i64 s.step, .int .i64 s.phase, .bool s.fresh, v1, v2], .int .i64 t2])) w') := HY2.out ht s t2 rfl
  subst ht
  clear HN HY2
  go_enter Tryd.func11, Tryd.ntmps11
  go_upto_region 1 with fail
  rw [← hW0]
  clear hW0
  go_wp2_with fail
  refine (CN.out _).mono ?_
  rintro e w1 ⟨rfl, e1⟩
  have e1' : W0 = w1 := e1.symm
  subst e1'
  clear e1
  go_upto_region 3 with fail
  have b0 : Below W0.heap.size W0 W0.drew := (Below.refl _ _).drew
  have KEEP : Hid (∀ V, Below W0.heap.size W0 V → V.cell? ⟨w.heap.size, 0, none⟩ = some (.slice a fs.length cap)) := fun V hV => (HK.out V hV).1.all1.1
  have HS0 : Hid (W0.drew.cell? ⟨w.heap.size, 0, none⟩ = some (.slice a fs.length cap)) := KEEP.out _ b0
  have ea : ∀ args w, (callFunc 22 args).run Tryd.prog w = .ok (.enter 22 args) w := enters_of Tryd.func22 (by kernel_rfl) rfl
  have eb : ∀ args w, (callFunc 26 args).run Tryd.prog w = .ok (.enter 26 args) w := enters_of Tryd.func26 (by kernel_rfl) rfl
  refine wp_region_held (S := fun V => V.cell? ⟨w.heap.size, 0, none⟩ = some (.slice a fs.length cap)) (by kernel_rfl) ?_
  simp only [List.size_toArray, List.length_cons, List.length_nil, Nat.reduceAdd]
  refine takeH (i := 0) (v := .agg #[.slice a fs.length cap]) (d := 15) rfl rfl (by kernel_rfl) (by kernel_rfl) (by kernel_rfl) (fun _ _ _ h => h) (by rfl) (fun V hV => by have v1 := hV; go_simp) HS0.out ?_
  simp only [Act.put, List.setIfInBounds_toArray, List.set_cons_zero, List.set_cons_succ]
  refine takeH (i := 1) (v := .int .i64 n) (d := 16) rfl rfl (by kernel_rfl) (by kernel_rfl) (by kernel_rfl) (fun _ _ _ h => h) (by rfl) (fun V hV => by have v1 := hV; go_simp) HS0.out ?_
  simp only [Act.put, List.setIfInBounds_toArray, List.set_cons_zero, List.set_cons_succ]
  refine oneH (i := 2) rfl (by kernel_rfl) rfl (call_gets (d := 17) (f := 22) (xs := #[.tmp 16]) (ats := #[3]) rfl rfl ea (vs := #[.int .i64 n]) (by simp [Act.eval]) (CA.out _) ?_)
  rintro vr wa ⟨rfl, hb⟩
  have wa_b : Below W0.heap.size W0 wa := b0.trans (hb.mono b0.size)
  refine ⟨KEEP.out _ wa_b, ?_⟩
  simp only [Act.put, List.setIfInBounds_toArray, List.set_cons_zero, List.set_cons_succ]
  clear hb
  refine oneH (i := 3) rfl (by kernel_rfl) rfl (call_gets (d := 18) (f := 26) (xs := #[.tmp 15, .tmp 17]) (ats := #[24, 9]) rfl rfl eb (vs := #[.agg #[.slice a fs.length cap], .string sl]) (by simp [Act.eval]) (CR.out _ (HK.out _ wa_b).2.2.2) ?_)
  rintro vr w2 ⟨v2, rfl, hr2, hb2⟩
  have hb2' : Below W0.heap.size W0 w2 := wa_b.trans (hb2.mono wa_b.size)
  obtain ⟨xa, xc, rfl⟩ : ∃ a c, v2 = .slice a l.length c := by obtain ⟨a, c, e, _⟩ := hr2; exact ⟨a, c, e⟩
  have HS2 : Hid (w2.cell? ⟨w.heap.size, 0, none⟩ = some (.slice a fs.length cap)) := KEEP.out _ hb2'
  refine ⟨HS2.out, ?_⟩
  simp only [Act.put, List.setIfInBounds_toArray, List.set_cons_zero, List.set_cons_succ]
  refine takeH (i := 4) (v := .tuple #[.slice xa l.length xc, .int .i64 0]) (d := 14) rfl rfl (by kernel_rfl) (by kernel_rfl) (by kernel_rfl) (fun _ _ _ h => h) (by rfl) (fun V hV => by have v1 := hV; go_simp) HS2.out ?_
  simp only [Act.put, List.setIfInBounds_toArray, List.set_cons_zero, List.set_cons_succ]
  refine takeH (i := 5) (v := .slice xa l.length xc) (d := 19) rfl rfl (by kernel_rfl) (by kernel_rfl) (by kernel_rfl) (fun _ _ _ h => h) (by rfl) (fun V hV => by have v1 := hV; go_simp) HS2.out ?_
  simp only [Act.put, List.setIfInBounds_toArray, List.set_cons_zero, List.set_cons_succ]
  refine takeH (i := 6) (v := .int .i64 0) (d := 20) rfl rfl (by kernel_rfl) (by kernel_rfl) (by kernel_rfl) (fun _ _ _ h => h) (by rfl) (fun V hV => by have v1 := hV; go_simp) HS2.out ?_
  simp only [Act.put, List.setIfInBounds_toArray, List.set_cons_zero, List.set_cons_succ]
  refine takeH (i := 7) (v := .slice xa l.length xc) (d := 6) rfl rfl (by kernel_rfl) (by kernel_rfl) (by kernel_rfl) (fun _ _ _ h => h) (by rfl) (fun V hV => by have v1 := hV; go_simp) HS2.out ?_
  simp only [Act.put, List.setIfInBounds_toArray, List.set_cons_zero, List.set_cons_succ]
  refine takeH (i := 8) (v := .int .i64 0) (d := 7) rfl rfl (by kernel_rfl) (by kernel_rfl) (by kernel_rfl) (fun _ _ _ h => h) (by rfl) (fun V hV => by have v1 := hV; go_simp) HS2.out ?_
  simp only [Act.put, List.setIfInBounds_toArray, List.set_cons_zero, List.set_cons_succ]
  refine wpAnyH_done (by kernel_rfl) ?_ _
  have A2 : Hid (Below W0.heap.size W0 w2) := hb2'
  have R2 : Hid (Reads .u8 w2 (.slice xa l.length xc) l) := hr2
  clear hr2 hb2 hb2' wa_b q0 CR CN CA KEEP HS0 HS2 b0 ea eb
  go_wp2_with fail
  refine (CD.out _ _ R2.out).mono ?_
  rintro e w4 ⟨u1, u2, rfl, hu1, hu2, hb4⟩
  obtain ⟨ua, uc, rfl⟩ := (RowK.own encM_len hu1 : MlR w4 u1 s.vals).shape
  obtain ⟨ya, yc, rfl⟩ := (RowK.own encM_len hu2 : MlR w4 u2 s.mail).shape
  have hs2 := A2.out.size
  have N4 : Hid (Below W0.heap.size W0 (w4.alloc (.cells #[.int .i64 s.step, .int .i64 s.phase, .bool s.fresh, .slice ua s.vals.length uc, .slice ya s.mail.length yc] 34)) ∧ BX 34 (w4.alloc (.cells #[.int .i64 s.step, .int .i64 s.phase, .bool s.fresh, .slice ua s.vals.length uc, .slice ya s.mail.length yc] 34)) w4.heap.size #[.int .i64 s.step, .int .i64 s.phase, .bool s.fresh, .slice ua s.vals.length uc, .slice ya s.mail.length yc] ∧ (w4.alloc (.cells #[.int .i64 s.step, .int .i64 s.phase, .bool s.fresh, .slice ua s.vals.length uc, .slice ya s.mail.length yc] 34)).ownsRow W0.heap.size 73 2 (.slice ua s.vals.length uc) s.vals.length (s.vals.flatMap encM) ∧ (w4.alloc (.cells #[.int .i64 s.step, .int .i64 s.phase, .bool s.fresh, .slice ua s.vals.length uc, .slice ya s.mail.length yc] 34)).ownsRow W0.heap.size 75 2 (.slice ya s.mail.length yc) s.mail.length (s.mail.flatMap encM)) := by
    have h := A2.out.trans (hb4.mono hs2)
    exact ⟨h.alloc h.size _, BX.new _ _ _, own_below (own_lower hu1 hs2) (below_alloc _ _) (Nat.le_refl _), own_below (own_lower hu2 hs2) (below_alloc _ _) (Nat.le_refl _)⟩
  clear hu1 hu2 hb4 hs2 R2 CD
  go_upto_region 7 with fail
  generalize w4.alloc (.cells #[.int .i64 s.step, .int .i64 s.phase, .bool s.fresh, .slice ua s.vals.length uc, .slice ya s.mail.length yc] 34) = w5 at *
  generalize w4.heap.size = b5 at *
  obtain ⟨a5, x5, o5, o6⟩ := N4.out
  have A5 : Hid (Below W0.heap.size W0 w5) := a5
  have O1 : Hid (w5.ownsRow W0.heap.size 73 2 (.slice ua s.vals.length uc) s.vals.length (s.vals.flatMap encM)) := o5
  have O2 : Hid (w5.ownsRow W0.heap.size 75 2 (.slice ya s.mail.length yc) s.mail.length (s.mail.flatMap encM)) := o6
  obtain ⟨e0, e1, e2, e3, e4⟩ := x5.all5
  clear a5 x5 o5 o6 N4
  obtain ⟨m0, m1, m2, m3, m4⟩ := (HK.out _ A5.out).2.1.all5
  obtain ⟨f0, f1, f2, f3, f4⟩ := (HK.out _ A5.out).2.1.all5f
  have HX : Hid (P (.returned (.tuple #[.agg #[.int .i64 s.step, .int .i64 s.phase, .bool s.fresh, .slice ua s.vals.length uc, .slice ya s.mail.length yc], .int .i64 t2])) (putS w5 (w.heap.size + 1) (.int .i64 s.step) (.int .i64 s.phase) (.bool s.fresh) (.slice ua s.vals.length uc) (.slice ya s.mail.length yc))) := HE.out _ _ _ (own_lower (own_off O1.out (HK.out _ A5.out).2.1 (by decide) (kept_putS w5 (w.heap.size + 1) _ _ _ _ _)) (by omega)) (own_lower (own_off O2.out (HK.out _ A5.out).2.1 (by decide) (kept_putS w5 (w.heap.size + 1) _ _ _ _ _)) (by omega)) (below_putS (HK.out _ A5.out).2.2.1 (Nat.le_succ _) _ _ _ _ _)
  have RX : Hid (BX 34 (putS w5 (w.heap.size + 1) (.int .i64 s.step) (.int .i64 s.phase) (.bool s.fresh) (.slice ua s.vals.length uc) (.slice ya s.mail.length yc)) (w.heap.size + 1) #[.int .i64 s.step, .int .i64 s.phase, .bool s.fresh, .slice ua s.vals.length uc, .slice ya s.mail.length yc]) := BX.putS (HK.out _ A5.out).2.1
  go_wp2_with fail
  obtain ⟨r0, r1, r2, r3, r4⟩ := RX.out.all5
  unfold putS at r0 r1 r2 r3 r4
  exact bodyPost_ret (v := .tuple #[.agg #[.int .i64 s.step, .int .i64 s.phase, .bool s.fresh, .slice ua s.vals.length uc, .slice ya s.mail.length yc], .int .i64 t2]) (by simp [results, Tryd.results11, go_sem, r0, r1, r2, r3, r4]) rfl HX.out
end Go.Proofs.YthakibcfmbkpkaaDoor
