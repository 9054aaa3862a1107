/-
  Contract of the document's NewestOf.
  Contracts of the law's own helpers: sameBytes, sameDisk (of disks that read alike), octets, disks.
  Contract of the law's own sameValues, of what reads alike.
  Contract of the law's own sameMails: what reads alike.
  Contract of the law's own sameSaved, of what reads alike.
  The wrap for a law whose row lists package variables: the reach, the world's shape and the list are handed over.
  The door's own world meets the lists of the laws of chapter 14 (no walk of these reads a listed variable).
  Contract of disk's copyFiles: the files of a disk at work are laid anew, in memory of the call's own.
  Contract of disk's changed, whatever change it is handed: by that change's own contract.
  One cell of a file is written: what the disk reads as then.
  What the faces of disk's changes have in common.
  What the document's own changes of a disk have in common: the disk is copied, a new one is built out of it.
-/
import Derived.Test.YthakibcfmbkpkaaDoorCkptNewestsPartA
import Derived.Test.YthakibcfmbkpkaaDoorCkptNewestsPartB
import Derived.Test.YthakibcfmbkpkaaDoorMayWalk
import Derived.Test.YthakibcfmbkpkaaDoorCopyWalk
import Derived.Test.YthakibcfmbkpkaaDoorSameBytes
import Derived.Test.YthakibcfmbkpkaaDoorTwoMem
import Derived.Deep.QuietTactic
import Derived.BigQuiet
import Derived.Lib.QuietBelow
import Derived.Test.YthakibcfmbkpkaaDoorMailMem
import Derived.Deep.CutRange
import Derived.Test.YthakibcfmbkpkaaDoorRows
import Derived.WalkKit
import Derived.ProofKit
import Derived.OpenShut
import Derived.SizedLaws
import Derived.HandedShaped
import Derived.LaidMore
import Derived.Stop.Joined
import Derived.Lib.LaidTab
import Derived.Stop.LaidErr
import Derived.Test.YthakibcfmbkpkaaDoorFindWalk
import Derived.Deep.RegionWith
import Derived.Test.YthakibcfmbkpkaaDoorAppendRun

namespace Go.Proofs.YthakibcfmbkpkaaDoor
set_option maxRecDepth 100000
open Go.ChangeShapes Go.WideShapes Go.ChangeAt Go.RowKit

theorem new_a {fs : List FileL} {m : Int} (h : (loadE fs 0).2 = 0 ∧ (loadE fs 0).1.step ≤ m) (h2 : ¬ ((loadE fs 1).2 = 0 ∧ (loadE fs 1).1.step ≤ m) ∨ (loadE fs 1).1.step ≤ (loadE fs 0).1.step) : curN fs m 2 = ((loadE fs 0).1, 0) := by
  have h1 : curN fs m 1 = ((loadE fs 0).1, 0) := curN_take (k := 0) h (.inl (by simp [curN]))
  by_cases h3 : (loadE fs 1).2 = 0 ∧ (loadE fs 1).1.step ≤ m
  · rw [curN_keep (k := 1), h1]
    rw [h1]
    rcases h2 with h2 | h2
    · exact absurd h3 h2
    · intro g
      rcases g with g | g
      · exact g rfl
      · have : (loadE fs ((1 : Nat) : Int)).1.step ≤ (loadE fs 0).1.step := h2
        simp only at g
        omega
  · rw [curN_skip (k := 1) h3, h1]
theorem new_b {fs : List FileL} {m : Int} (h : (loadE fs 1).2 = 0 ∧ (loadE fs 1).1.step ≤ m) (h2 : ¬ ((loadE fs 0).2 = 0 ∧ (loadE fs 0).1.step ≤ m) ∨ (loadE fs 0).1.step < (loadE fs 1).1.step) : curN fs m 2 = ((loadE fs 1).1, 0) := by
  refine curN_take (k := 1) h ?_
  by_cases h3 : (loadE fs 0).2 = 0 ∧ (loadE fs 0).1.step ≤ m
  · have h1 : curN fs m 1 = ((loadE fs 0).1, 0) := curN_take (k := 0) h3 (.inl (by simp [curN]))
    rw [h1]
    rcases h2 with h2 | h2
    · exact absurd h3 h2
    · exact .inr h2
  · have h1 : curN fs m 1 = (sv0, 7) := curN_skip (k := 0) h3
    rw [h1]
    exact .inl (by decide)
theorem new_no {fs : List FileL} {m : Int} (h : ¬ ((loadE fs 0).2 = 0 ∧ (loadE fs 0).1.step ≤ m)) (h2 : ¬ ((loadE fs 1).2 = 0 ∧ (loadE fs 1).1.step ≤ m)) : curN fs m 2 = (sv0, 7) := by
  have h1 : curN fs m 1 = (sv0, 7) := curN_skip (k := 0) h
  rw [curN_skip (k := 1) h2, h1]

set_option maxHeartbeats 4000000 in
set_option maxRecDepth 100000 in
theorem newestOf_any (v : Value) (fs : List FileL) (n : Int) (w : World) (h : DiskR w v fs) (hg : Good fs) :
    Calls Tryd.prog 14 #[.agg #[v], .int .i64 n] w (SvdP w (newE fs n)) := by
  have HD : Hid (DiskR w v fs) := h
  have HG : Hid (Good fs) := hg
  obtain ⟨a, cap, rfl⟩ : ∃ a c, v = .slice a fs.length c := by obtain ⟨a, c, e, _⟩ := h; exact ⟨a, c, e⟩
  clear h hg
  obtain ⟨W0, hW0⟩ : ∃ W0, W0 = (w.alloc (.cells #[.slice a fs.length cap] 24)).alloc (.cells #[.int .i64 0, .int .i64 0, .bool false, .slice none 0 0, .slice none 0 0] 34) := ⟨_, rfl⟩
  obtain ⟨Q0, M0, B0, s1, s2⟩ := boxes2 w #[.slice a fs.length cap] #[.int .i64 0, .int .i64 0, .bool false, .slice none 0 0, .slice none 0 0] 24 34 W0 hW0
  have HK : Hid (∀ X, Below W0.heap.size W0 X → BX 24 X w.heap.size #[.slice a fs.length cap] ∧ BX 34 X (w.heap.size + 1) #[.int .i64 0, .int .i64 0, .bool false, .slice none 0 0, .slice none 0 0] ∧ Below w.heap.size w X ∧ DiskR X (.slice a fs.length cap) fs) := fun X hX => by
    have hb := B0.trans (hX.mono (show w.heap.size ≤ W0.heap.size by omega))
    exact ⟨Q0.below hX (by omega), M0.below hX (by omega), hb, HD.out.below hb (Nat.le_refl _)⟩
  have A0 : Hid (Below W0.heap.size W0 W0) := Below.refl _ _
  obtain ⟨q0, _⟩ := Q0.all1
  clear Q0 M0 B0
  have HN : Hid (∀ f, newE fs n = (sv0, f) → ∀ w', Below w.heap.size w w' → SvdP w (newE fs n) (.returned (.tuple #[.agg #[.int .i64 0, .int .i64 0, .bool false, .slice none 0 0, .slice none 0 0], .int .i64 f])) w') := fun f h w' hb => by rw [h]; exact SvdP.no hb
  have HY : Hid (∀ s f, newE fs n = (s, f) → ∀ v1 v2 w', w'.ownsRow w.heap.size 73 2 v1 s.vals.length (s.vals.flatMap encM) → w'.ownsRow w.heap.size 75 2 v2 s.mail.length (s.mail.flatMap encM) → Below w.heap.size w w' → SvdP w (newE fs n) (.returned (.tuple #[.agg #[.int .i64 s.step, .int .i64 s.phase, .bool s.fresh, v1, v2], .int .i64 f])) w') := fun s f h v1 v2 w' h1 h2 h3 => by rw [h]; exact SvdP.at h1 h2 h3
  generalize SvdP w (newE fs n) = P at *
  cases hm : mayB fs
  case false =>
    have HE : Hid (∀ w', Below w.heap.size w w' → P (.returned (.tuple #[.agg #[.int .i64 0, .int .i64 0, .bool false, .slice none 0 0, .slice none 0 0], .int .i64 9])) w') := HN.out 9 (newE_no hm)
    have CM : Hid (∀ X, DiskR X (.slice a fs.length cap) fs → Calls Tryd.prog 30 #[.agg #[.slice a fs.length cap]] X fun e w' => e = .returned (.bool false) ∧ Below X.heap.size X w') := fun X h => by
      have := diskMay_any _ fs X h
      rwa [hm] at this
    clear HN HY hm
    go_enter Tryd.func14, Tryd.ntmps14
    go_upto_region 1 with fail
    rw [← hW0]
    clear hW0
    go_wp2_with fail
    refine (CM.out _ (HK.out _ A0.out).2.2.2).mono ?_
    rintro e w1 ⟨rfl, hb1⟩
    have A1 : Hid (Below W0.heap.size W0 w1) := hb1
    clear hb1 q0
    obtain ⟨m0, m1, m2, m3, m4⟩ := (HK.out _ A1.out).2.1.all5
    obtain ⟨f0, f1, f2, f3, f4⟩ := (HK.out _ A1.out).2.1.all5f
    have HX : Hid (P (.returned (.tuple #[.agg #[.int .i64 0, .int .i64 0, .bool false, .slice none 0 0, .slice none 0 0], .int .i64 9])) (putS w1 (w.heap.size + 1) (.int .i64 0) (.int .i64 0) (.bool false) (.slice none 0 0) (.slice none 0 0))) := HE.out _ (below_putS (HK.out _ A1.out).2.2.1 (Nat.le_succ _) _ _ _ _ _)
    have RX : Hid (BX 34 (putS w1 (w.heap.size + 1) (.int .i64 0) (.int .i64 0) (.bool false) (.slice none 0 0) (.slice none 0 0)) (w.heap.size + 1) #[.int .i64 0, .int .i64 0, .bool false, .slice none 0 0, .slice none 0 0]) := BX.putS (HK.out _ A1.out).2.1
    go_wp2_with fail
    obtain ⟨r0, r1, r2, r3, r4⟩ := RX.out.all5
    unfold putS at r0 r1 r2 r3 r4
    exact bodyPost_ret (v := .tuple #[.agg #[.int .i64 0, .int .i64 0, .bool false, .slice none 0 0, .slice none 0 0], .int .i64 9]) (by simp [results, Tryd.results14, go_sem, r0, r1, r2, r3, r4]) rfl HX.out
  have CM : Hid (∀ X, DiskR X (.slice a fs.length cap) fs → Calls Tryd.prog 30 #[.agg #[.slice a fs.length cap]] X fun e w' => e = .returned (.bool true) ∧ Below X.heap.size X w') := fun X h => by
    have := diskMay_any _ fs X h
    rwa [hm] at this
  have C0 : Hid (∀ X, DiskR X (.slice a fs.length cap) fs → Calls Tryd.prog 11 #[.agg #[.slice a fs.length cap], .int .i64 0] X (SvdP X (loadE fs 0))) := fun X h => loadedSlot_any _ fs 0 X h HG.out
  have C1 : Hid (∀ X, DiskR X (.slice a fs.length cap) fs → Calls Tryd.prog 11 #[.agg #[.slice a fs.length cap], .int .i64 1] X (SvdP X (loadE fs 1))) := fun X h => loadedSlot_any _ fs 1 X h HG.out
  have KA : Hid ((loadE fs 0).2 = 0 ∧ (loadE fs 0).1.step ≤ n → (¬ ((loadE fs 1).2 = 0 ∧ (loadE fs 1).1.step ≤ n) ∨ (loadE fs 1).1.step ≤ (loadE fs 0).1.step) → newE fs n = ((loadE fs 0).1, 0)) := fun h h2 => (newE_yes hm).trans (new_a h h2)
  have KB : Hid ((loadE fs 1).2 = 0 ∧ (loadE fs 1).1.step ≤ n → (¬ ((loadE fs 0).2 = 0 ∧ (loadE fs 0).1.step ≤ n) ∨ (loadE fs 0).1.step < (loadE fs 1).1.step) → newE fs n = ((loadE fs 1).1, 0)) := fun h h2 => (newE_yes hm).trans (new_b h h2)
  have KZ : Hid (¬ ((loadE fs 0).2 = 0 ∧ (loadE fs 0).1.step ≤ n) → ¬ ((loadE fs 1).2 = 0 ∧ (loadE fs 1).1.step ≤ n) → newE fs n = (sv0, 7)) := fun h h2 => (newE_yes hm).trans (new_no h h2)
  clear hm
  generalize loadE fs 0 = L0 at *
  generalize loadE fs 1 = L1 at *
  obtain ⟨s, t1⟩ := L0
  obtain ⟨r, t2⟩ := L1
  simp only at KA KB KZ
  by_cases h1 : t1 = 0
  · have e1 : (t1 == 0) = true := by simp [h1]
    by_cases h2 : s.step ≤ n
    · by_cases h3 : t2 = 0
      · have e3 : (t2 == 0) = true := by simp [h3]
        by_cases h4 : r.step ≤ n
        · by_cases h5 : r.step ≤ s.step
          · have HE : Hid (∀ v1 v2 w', w'.ownsRow w.heap.size 73 2 v1 s.vals.length (s.vals.flatMap encM) → w'.ownsRow w.heap.size 75 2 v2 s.mail.length (s.mail.flatMap encM) → Below w.heap.size w w' → P (.returned (.tuple #[.agg #[.int .i64 s.step, .int .i64 s.phase, .bool s.fresh, v1, v2], .int .i64 0])) w') := HY.out s 0 (KA.out ⟨h1, h2⟩ (.inr h5))
            clear HN HY KA KB KZ h1 h3
            go_enter Tryd.func14, Tryd.ntmps14
            go_upto_region 1 with fail
            rw [← hW0]
            clear hW0
            go_wp2_with fail
            refine (CM.out _ (HK.out _ A0.out).2.2.2).mono ?_
            rintro e w1 ⟨rfl, hb1⟩
            have A1 : Hid (Below W0.heap.size W0 w1) := hb1
            clear hb1 q0
            obtain ⟨q0, _⟩ := (HK.out _ A1.out).1.all1
            go_wp2_with fail
            refine (C0.out _ (HK.out _ A1.out).2.2.2).mono ?_
            rintro e w2 ⟨u1, u2, rfl, hu1, hu2, hb2⟩
            obtain ⟨ua, uc, rfl⟩ := (RowK.own encM_len hu1 : MlR w2 u1 s.vals).shape
            obtain ⟨ub, ud, rfl⟩ := (RowK.own encM_len hu2 : MlR w2 u2 s.mail).shape
            have hs1 := A1.out.size
            have N2 : Hid (Below W0.heap.size W0 (w2.alloc (.cells #[.int .i64 s.step, .int .i64 s.phase, .bool s.fresh, .slice ua s.vals.length uc, .slice ub s.mail.length ud] 34)) ∧ BX 34 (w2.alloc (.cells #[.int .i64 s.step, .int .i64 s.phase, .bool s.fresh, .slice ua s.vals.length uc, .slice ub s.mail.length ud] 34)) w2.heap.size #[.int .i64 s.step, .int .i64 s.phase, .bool s.fresh, .slice ua s.vals.length uc, .slice ub s.mail.length ud] ∧ ((w2.alloc (.cells #[.int .i64 s.step, .int .i64 s.phase, .bool s.fresh, .slice ua s.vals.length uc, .slice ub s.mail.length ud] 34)).ownsRow W0.heap.size 73 2 (.slice ua s.vals.length uc) s.vals.length (s.vals.flatMap encM) ∧ (w2.alloc (.cells #[.int .i64 s.step, .int .i64 s.phase, .bool s.fresh, .slice ua s.vals.length uc, .slice ub s.mail.length ud] 34)).ownsRow W0.heap.size 75 2 (.slice ub s.mail.length ud) s.mail.length (s.mail.flatMap encM))) := by
              have h := A1.out.trans (hb2.mono hs1)
              exact ⟨h.alloc h.size _, BX.new _ _ _, own_below (own_lower hu1 hs1) (below_alloc _ _) (Nat.le_refl _), own_below (own_lower hu2 hs1) (below_alloc _ _) (Nat.le_refl _)⟩
            clear hu1 hu2 hb2 hs1 q0 A1
            go_upto_region 4 with fail
            generalize w2.alloc (.cells #[.int .i64 s.step, .int .i64 s.phase, .bool s.fresh, .slice ua s.vals.length uc, .slice ub s.mail.length ud] 34) = w3 at *
            generalize w2.heap.size = b3 at *
            have hl3 := N2.out.2.1.lt
            have hs3 := N2.out.1.size
            obtain ⟨q0, _⟩ := (HK.out _ N2.out.1).1.all1
            go_wp2_with fail
            refine (C1.out _ (HK.out _ N2.out.1).2.2.2).mono ?_
            rintro e w4 ⟨u1, u2, rfl, hu1, hu2, hb4⟩
            obtain ⟨ya, yc, rfl⟩ := (RowK.own encM_len hu1 : MlR w4 u1 r.vals).shape
            obtain ⟨yb, yd, rfl⟩ := (RowK.own encM_len hu2 : MlR w4 u2 r.mail).shape
            have N4 : Hid (Below W0.heap.size W0 (w4.alloc (.cells #[.int .i64 r.step, .int .i64 r.phase, .bool r.fresh, .slice ya r.vals.length yc, .slice yb r.mail.length yd] 34)) ∧ (BX 34 (w4.alloc (.cells #[.int .i64 r.step, .int .i64 r.phase, .bool r.fresh, .slice ya r.vals.length yc, .slice yb r.mail.length yd] 34)) w4.heap.size #[.int .i64 r.step, .int .i64 r.phase, .bool r.fresh, .slice ya r.vals.length yc, .slice yb r.mail.length yd] ∧ BX 34 (w4.alloc (.cells #[.int .i64 r.step, .int .i64 r.phase, .bool r.fresh, .slice ya r.vals.length yc, .slice yb r.mail.length yd] 34)) b3 #[.int .i64 s.step, .int .i64 s.phase, .bool s.fresh, .slice ua s.vals.length uc, .slice ub s.mail.length ud]) ∧ ((w4.alloc (.cells #[.int .i64 r.step, .int .i64 r.phase, .bool r.fresh, .slice ya r.vals.length yc, .slice yb r.mail.length yd] 34)).ownsRow W0.heap.size 73 2 (.slice ya r.vals.length yc) r.vals.length (r.vals.flatMap encM) ∧ (w4.alloc (.cells #[.int .i64 r.step, .int .i64 r.phase, .bool r.fresh, .slice ya r.vals.length yc, .slice yb r.mail.length yd] 34)).ownsRow W0.heap.size 75 2 (.slice yb r.mail.length yd) r.mail.length (r.mail.flatMap encM)) ∧ ((w4.alloc (.cells #[.int .i64 r.step, .int .i64 r.phase, .bool r.fresh, .slice ya r.vals.length yc, .slice yb r.mail.length yd] 34)).ownsRow W0.heap.size 73 2 (.slice ua s.vals.length uc) s.vals.length (s.vals.flatMap encM) ∧ (w4.alloc (.cells #[.int .i64 r.step, .int .i64 r.phase, .bool r.fresh, .slice ya r.vals.length yc, .slice yb r.mail.length yd] 34)).ownsRow W0.heap.size 75 2 (.slice ub s.mail.length ud) s.mail.length (s.mail.flatMap encM))) := by
              have h := N2.out.1.trans (hb4.mono hs3)
              have bA := hb4.alloc hb4.size (.cells #[.int .i64 r.step, .int .i64 r.phase, .bool r.fresh, .slice ya r.vals.length yc, .slice yb r.mail.length yd] 34)
              exact ⟨h.alloc h.size _, ⟨BX.new _ _ _, N2.out.2.1.below bA hl3⟩, ⟨own_below (own_lower hu1 hs3) (below_alloc _ _) (Nat.le_refl _), own_below (own_lower hu2 hs3) (below_alloc _ _) (Nat.le_refl _)⟩, own_below N2.out.2.2.1 bA (Nat.le_refl _), own_below N2.out.2.2.2 bA (Nat.le_refl _)⟩
            clear hu1 hu2 hb4 q0 N2
            go_upto_region 5 with fail
            generalize w4.alloc (.cells #[.int .i64 r.step, .int .i64 r.phase, .bool r.fresh, .slice ya r.vals.length yc, .slice yb r.mail.length yd] 34) = w5 at *
            generalize w4.heap.size = b5 at *
            obtain ⟨a5, ⟨y5, x5⟩, p5, o5⟩ := N4.out
            have A5 : Hid (Below W0.heap.size W0 w5) := a5
            have OA : Hid (w5.ownsRow W0.heap.size 73 2 (.slice ua s.vals.length uc) s.vals.length (s.vals.flatMap encM) ∧ w5.ownsRow W0.heap.size 75 2 (.slice ub s.mail.length ud) s.mail.length (s.mail.flatMap encM)) := o5
            have OB : Hid (w5.ownsRow W0.heap.size 73 2 (.slice ya r.vals.length yc) r.vals.length (r.vals.flatMap encM) ∧ w5.ownsRow W0.heap.size 75 2 (.slice yb r.mail.length yd) r.mail.length (r.mail.flatMap encM)) := p5
            obtain ⟨e0, e1, e2, e3, e4⟩ := x5.all5
            obtain ⟨g0, g1, g2, g3, g4⟩ := y5.all5
            clear a5 x5 y5 o5 p5 N4 CM C0 C1
            obtain ⟨m0, m1, m2, m3, m4⟩ := (HK.out _ A5.out).2.1.all5
            obtain ⟨f0, f1, f2, f3, f4⟩ := (HK.out _ A5.out).2.1.all5f
            have HX : Hid (P (.returned (.tuple #[.agg #[.int .i64 s.step, .int .i64 s.phase, .bool s.fresh, .slice ua s.vals.length uc, .slice ub s.mail.length ud], .int .i64 0])) (putS w5 (w.heap.size + 1) (.int .i64 s.step) (.int .i64 s.phase) (.bool s.fresh) (.slice ua s.vals.length uc) (.slice ub s.mail.length ud))) := HE.out _ _ _ (own_lower (own_off OA.out.1 (HK.out _ A5.out).2.1 (by decide) (kept_putS w5 (w.heap.size + 1) _ _ _ _ _)) (by omega)) (own_lower (own_off OA.out.2 (HK.out _ A5.out).2.1 (by decide) (kept_putS w5 (w.heap.size + 1) _ _ _ _ _)) (by omega)) (below_putS (HK.out _ A5.out).2.2.1 (Nat.le_succ _) _ _ _ _ _)
            have RX : Hid (BX 34 (putS w5 (w.heap.size + 1) (.int .i64 s.step) (.int .i64 s.phase) (.bool s.fresh) (.slice ua s.vals.length uc) (.slice ub s.mail.length ud)) (w.heap.size + 1) #[.int .i64 s.step, .int .i64 s.phase, .bool s.fresh, .slice ua s.vals.length uc, .slice ub s.mail.length ud]) := BX.putS (HK.out _ A5.out).2.1
            go_wp2_with fail
            obtain ⟨r0, r1, r2, r3, r4⟩ := RX.out.all5
            unfold putS at r0 r1 r2 r3 r4
            exact bodyPost_ret (v := .tuple #[.agg #[.int .i64 s.step, .int .i64 s.phase, .bool s.fresh, .slice ua s.vals.length uc, .slice ub s.mail.length ud], .int .i64 0]) (by simp [results, Tryd.results14, go_sem, r0, r1, r2, r3, r4]) rfl HX.out
          · have HE : Hid (∀ v1 v2 w', w'.ownsRow w.heap.size 73 2 v1 r.vals.length (r.vals.flatMap encM) → w'.ownsRow w.heap.size 75 2 v2 r.mail.length (r.mail.flatMap encM) → Below w.heap.size w w' → P (.returned (.tuple #[.agg #[.int .i64 r.step, .int .i64 r.phase, .bool r.fresh, v1, v2], .int .i64 0])) w') := HY.out r 0 (KB.out ⟨h3, h4⟩ (.inr (by omega)))
            clear HN HY KA KB KZ h1 h3
            go_enter Tryd.func14, Tryd.ntmps14
            go_upto_region 1 with fail
            rw [← hW0]
            clear hW0
            go_wp2_with fail
            refine (CM.out _ (HK.out _ A0.out).2.2.2).mono ?_
            rintro e w1 ⟨rfl, hb1⟩
            have A1 : Hid (Below W0.heap.size W0 w1) := hb1
            clear hb1 q0
            obtain ⟨q0, _⟩ := (HK.out _ A1.out).1.all1
            go_wp2_with fail
            refine (C0.out _ (HK.out _ A1.out).2.2.2).mono ?_
            rintro e w2 ⟨u1, u2, rfl, hu1, hu2, hb2⟩
            obtain ⟨ua, uc, rfl⟩ := (RowK.own encM_len hu1 : MlR w2 u1 s.vals).shape
            obtain ⟨ub, ud, rfl⟩ := (RowK.own encM_len hu2 : MlR w2 u2 s.mail).shape
            have hs1 := A1.out.size
            have N2 : Hid (Below W0.heap.size W0 (w2.alloc (.cells #[.int .i64 s.step, .int .i64 s.phase, .bool s.fresh, .slice ua s.vals.length uc, .slice ub s.mail.length ud] 34)) ∧ BX 34 (w2.alloc (.cells #[.int .i64 s.step, .int .i64 s.phase, .bool s.fresh, .slice ua s.vals.length uc, .slice ub s.mail.length ud] 34)) w2.heap.size #[.int .i64 s.step, .int .i64 s.phase, .bool s.fresh, .slice ua s.vals.length uc, .slice ub s.mail.length ud] ∧ ((w2.alloc (.cells #[.int .i64 s.step, .int .i64 s.phase, .bool s.fresh, .slice ua s.vals.length uc, .slice ub s.mail.length ud] 34)).ownsRow W0.heap.size 73 2 (.slice ua s.vals.length uc) s.vals.length (s.vals.flatMap encM) ∧ (w2.alloc (.cells #[.int .i64 s.step, .int .i64 s.phase, .bool s.fresh, .slice ua s.vals.length uc, .slice ub s.mail.length ud] 34)).ownsRow W0.heap.size 75 2 (.slice ub s.mail.length ud) s.mail.length (s.mail.flatMap encM))) := by
              have h := A1.out.trans (hb2.mono hs1)
              exact ⟨h.alloc h.size _, BX.new _ _ _, own_below (own_lower hu1 hs1) (below_alloc _ _) (Nat.le_refl _), own_below (own_lower hu2 hs1) (below_alloc _ _) (Nat.le_refl _)⟩
            clear hu1 hu2 hb2 hs1 q0 A1
            go_upto_region 4 with fail
            generalize w2.alloc (.cells #[.int .i64 s.step, .int .i64 s.phase, .bool s.fresh, .slice ua s.vals.length uc, .slice ub s.mail.length ud] 34) = w3 at *
            generalize w2.heap.size = b3 at *
            have hl3 := N2.out.2.1.lt
            have hs3 := N2.out.1.size
            obtain ⟨q0, _⟩ := (HK.out _ N2.out.1).1.all1
            go_wp2_with fail
            refine (C1.out _ (HK.out _ N2.out.1).2.2.2).mono ?_
            rintro e w4 ⟨u1, u2, rfl, hu1, hu2, hb4⟩
            obtain ⟨ya, yc, rfl⟩ := (RowK.own encM_len hu1 : MlR w4 u1 r.vals).shape
            obtain ⟨yb, yd, rfl⟩ := (RowK.own encM_len hu2 : MlR w4 u2 r.mail).shape
            have N4 : Hid (Below W0.heap.size W0 (w4.alloc (.cells #[.int .i64 r.step, .int .i64 r.phase, .bool r.fresh, .slice ya r.vals.length yc, .slice yb r.mail.length yd] 34)) ∧ (BX 34 (w4.alloc (.cells #[.int .i64 r.step, .int .i64 r.phase, .bool r.fresh, .slice ya r.vals.length yc, .slice yb r.mail.length yd] 34)) w4.heap.size #[.int .i64 r.step, .int .i64 r.phase, .bool r.fresh, .slice ya r.vals.length yc, .slice yb r.mail.length yd] ∧ BX 34 (w4.alloc (.cells #[.int .i64 r.step, .int .i64 r.phase, .bool r.fresh, .slice ya r.vals.length yc, .slice yb r.mail.length yd] 34)) b3 #[.int .i64 s.step, .int .i64 s.phase, .bool s.fresh, .slice ua s.vals.length uc, .slice ub s.mail.length ud]) ∧ ((w4.alloc (.cells #[.int .i64 r.step, .int .i64 r.phase, .bool r.fresh, .slice ya r.vals.length yc, .slice yb r.mail.length yd] 34)).ownsRow W0.heap.size 73 2 (.slice ya r.vals.length yc) r.vals.length (r.vals.flatMap encM) ∧ (w4.alloc (.cells #[.int .i64 r.step, .int .i64 r.phase, .bool r.fresh, .slice ya r.vals.length yc, .slice yb r.mail.length yd] 34)).ownsRow W0.heap.size 75 2 (.slice yb r.mail.length yd) r.mail.length (r.mail.flatMap encM)) ∧ ((w4.alloc (.cells #[.int .i64 r.step, .int .i64 r.phase, .bool r.fresh, .slice ya r.vals.length yc, .slice yb r.mail.length yd] 34)).ownsRow W0.heap.size 73 2 (.slice ua s.vals.length uc) s.vals.length (s.vals.flatMap encM) ∧ (w4.alloc (.cells #[.int .i64 r.step, .int .i64 r.phase, .bool r.fresh, .slice ya r.vals.length yc, .slice yb r.mail.length yd] 34)).ownsRow W0.heap.size 75 2 (.slice ub s.mail.length ud) s.mail.length (s.mail.flatMap encM))) := by
              have h := N2.out.1.trans (hb4.mono hs3)
              have bA := hb4.alloc hb4.size (.cells #[.int .i64 r.step, .int .i64 r.phase, .bool r.fresh, .slice ya r.vals.length yc, .slice yb r.mail.length yd] 34)
              exact ⟨h.alloc h.size _, ⟨BX.new _ _ _, N2.out.2.1.below bA hl3⟩, ⟨own_below (own_lower hu1 hs3) (below_alloc _ _) (Nat.le_refl _), own_below (own_lower hu2 hs3) (below_alloc _ _) (Nat.le_refl _)⟩, own_below N2.out.2.2.1 bA (Nat.le_refl _), own_below N2.out.2.2.2 bA (Nat.le_refl _)⟩
            clear hu1 hu2 hb4 q0 N2
            go_upto_region 5 with fail
            generalize w4.alloc (.cells #[.int .i64 r.step, .int .i64 r.phase, .bool r.fresh, .slice ya r.vals.length yc, .slice yb r.mail.length yd] 34) = w5 at *
            generalize w4.heap.size = b5 at *
            obtain ⟨a5, ⟨y5, x5⟩, p5, o5⟩ := N4.out
            have A5 : Hid (Below W0.heap.size W0 w5) := a5
            have OA : Hid (w5.ownsRow W0.heap.size 73 2 (.slice ua s.vals.length uc) s.vals.length (s.vals.flatMap encM) ∧ w5.ownsRow W0.heap.size 75 2 (.slice ub s.mail.length ud) s.mail.length (s.mail.flatMap encM)) := o5
            have OB : Hid (w5.ownsRow W0.heap.size 73 2 (.slice ya r.vals.length yc) r.vals.length (r.vals.flatMap encM) ∧ w5.ownsRow W0.heap.size 75 2 (.slice yb r.mail.length yd) r.mail.length (r.mail.flatMap encM)) := p5
            obtain ⟨e0, e1, e2, e3, e4⟩ := x5.all5
            obtain ⟨g0, g1, g2, g3, g4⟩ := y5.all5
            clear a5 x5 y5 o5 p5 N4 CM C0 C1
            obtain ⟨m0, m1, m2, m3, m4⟩ := (HK.out _ A5.out).2.1.all5
            obtain ⟨f0, f1, f2, f3, f4⟩ := (HK.out _ A5.out).2.1.all5f
            have HX : Hid (P (.returned (.tuple #[.agg #[.int .i64 r.step, .int .i64 r.phase, .bool r.fresh, .slice ya r.vals.length yc, .slice yb r.mail.length yd], .int .i64 0])) (putS w5 (w.heap.size + 1) (.int .i64 r.step) (.int .i64 r.phase) (.bool r.fresh) (.slice ya r.vals.length yc) (.slice yb r.mail.length yd))) := HE.out _ _ _ (own_lower (own_off OB.out.1 (HK.out _ A5.out).2.1 (by decide) (kept_putS w5 (w.heap.size + 1) _ _ _ _ _)) (by omega)) (own_lower (own_off OB.out.2 (HK.out _ A5.out).2.1 (by decide) (kept_putS w5 (w.heap.size + 1) _ _ _ _ _)) (by omega)) (below_putS (HK.out _ A5.out).2.2.1 (Nat.le_succ _) _ _ _ _ _)
            have RX : Hid (BX 34 (putS w5 (w.heap.size + 1) (.int .i64 r.step) (.int .i64 r.phase) (.bool r.fresh) (.slice ya r.vals.length yc) (.slice yb r.mail.length yd)) (w.heap.size + 1) #[.int .i64 r.step, .int .i64 r.phase, .bool r.fresh, .slice ya r.vals.length yc, .slice yb r.mail.length yd]) := BX.putS (HK.out _ A5.out).2.1
            go_wp2_with fail
            obtain ⟨r0, r1, r2, r3, r4⟩ := RX.out.all5
            unfold putS at r0 r1 r2 r3 r4
            exact bodyPost_ret (v := .tuple #[.agg #[.int .i64 r.step, .int .i64 r.phase, .bool r.fresh, .slice ya r.vals.length yc, .slice yb r.mail.length yd], .int .i64 0]) (by simp [results, Tryd.results14, go_sem, r0, r1, r2, r3, r4]) rfl HX.out
        · have HE : Hid (∀ v1 v2 w', w'.ownsRow w.heap.size 73 2 v1 s.vals.length (s.vals.flatMap encM) → w'.ownsRow w.heap.size 75 2 v2 s.mail.length (s.mail.flatMap encM) → Below w.heap.size w w' → P (.returned (.tuple #[.agg #[.int .i64 s.step, .int .i64 s.phase, .bool s.fresh, v1, v2], .int .i64 0])) w') := HY.out s 0 (KA.out ⟨h1, h2⟩ (.inl (fun h => h4 h.2)))
          clear HN HY KA KB KZ h1 h3
          go_enter Tryd.func14, Tryd.ntmps14
          go_upto_region 1 with fail
          rw [← hW0]
          clear hW0
          go_wp2_with fail
          refine (CM.out _ (HK.out _ A0.out).2.2.2).mono ?_
          rintro e w1 ⟨rfl, hb1⟩
          have A1 : Hid (Below W0.heap.size W0 w1) := hb1
          clear hb1 q0
          obtain ⟨q0, _⟩ := (HK.out _ A1.out).1.all1
          go_wp2_with fail
          refine (C0.out _ (HK.out _ A1.out).2.2.2).mono ?_
          rintro e w2 ⟨u1, u2, rfl, hu1, hu2, hb2⟩
          obtain ⟨ua, uc, rfl⟩ := (RowK.own encM_len hu1 : MlR w2 u1 s.vals).shape
          obtain ⟨ub, ud, rfl⟩ := (RowK.own encM_len hu2 : MlR w2 u2 s.mail).shape
          have hs1 := A1.out.size
          have N2 : Hid (Below W0.heap.size W0 (w2.alloc (.cells #[.int .i64 s.step, .int .i64 s.phase, .bool s.fresh, .slice ua s.vals.length uc, .slice ub s.mail.length ud] 34)) ∧ BX 34 (w2.alloc (.cells #[.int .i64 s.step, .int .i64 s.phase, .bool s.fresh, .slice ua s.vals.length uc, .slice ub s.mail.length ud] 34)) w2.heap.size #[.int .i64 s.step, .int .i64 s.phase, .bool s.fresh, .slice ua s.vals.length uc, .slice ub s.mail.length ud] ∧ ((w2.alloc (.cells #[.int .i64 s.step, .int .i64 s.phase, .bool s.fresh, .slice ua s.vals.length uc, .slice ub s.mail.length ud] 34)).ownsRow W0.heap.size 73 2 (.slice ua s.vals.length uc) s.vals.length (s.vals.flatMap encM) ∧ (w2.alloc (.cells #[.int .i64 s.step, .int .i64 s.phase, .bool s.fresh, .slice ua s.vals.length uc, .slice ub s.mail.length ud] 34)).ownsRow W0.heap.size 75 2 (.slice ub s.mail.length ud) s.mail.length (s.mail.flatMap encM))) := by
            have h := A1.out.trans (hb2.mono hs1)
            exact ⟨h.alloc h.size _, BX.new _ _ _, own_below (own_lower hu1 hs1) (below_alloc _ _) (Nat.le_refl _), own_below (own_lower hu2 hs1) (below_alloc _ _) (Nat.le_refl _)⟩
          clear hu1 hu2 hb2 hs1 q0 A1
          go_upto_region 4 with fail
          generalize w2.alloc (.cells #[.int .i64 s.step, .int .i64 s.phase, .bool s.fresh, .slice ua s.vals.length uc, .slice ub s.mail.length ud] 34) = w3 at *
          generalize w2.heap.size = b3 at *
          have hl3 := N2.out.2.1.lt
          have hs3 := N2.out.1.size
          obtain ⟨q0, _⟩ := (HK.out _ N2.out.1).1.all1
          go_wp2_with fail
          refine (C1.out _ (HK.out _ N2.out.1).2.2.2).mono ?_
          rintro e w4 ⟨u1, u2, rfl, hu1, hu2, hb4⟩
          obtain ⟨ya, yc, rfl⟩ := (RowK.own encM_len hu1 : MlR w4 u1 r.vals).shape
          obtain ⟨yb, yd, rfl⟩ := (RowK.own encM_len hu2 : MlR w4 u2 r.mail).shape
          have N4 : Hid (Below W0.heap.size W0 (w4.alloc (.cells #[.int .i64 r.step, .int .i64 r.phase, .bool r.fresh, .slice ya r.vals.length yc, .slice yb r.mail.length yd] 34)) ∧ (BX 34 (w4.alloc (.cells #[.int .i64 r.step, .int .i64 r.phase, .bool r.fresh, .slice ya r.vals.length yc, .slice yb r.mail.length yd] 34)) w4.heap.size #[.int .i64 r.step, .int .i64 r.phase, .bool r.fresh, .slice ya r.vals.length yc, .slice yb r.mail.length yd] ∧ BX 34 (w4.alloc (.cells #[.int .i64 r.step, .int .i64 r.phase, .bool r.fresh, .slice ya r.vals.length yc, .slice yb r.mail.length yd] 34)) b3 #[.int .i64 s.step, .int .i64 s.phase, .bool s.fresh, .slice ua s.vals.length uc, .slice ub s.mail.length ud]) ∧ ((w4.alloc (.cells #[.int .i64 r.step, .int .i64 r.phase, .bool r.fresh, .slice ya r.vals.length yc, .slice yb r.mail.length yd] 34)).ownsRow W0.heap.size 73 2 (.slice ya r.vals.length yc) r.vals.length (r.vals.flatMap encM) ∧ (w4.alloc (.cells #[.int .i64 r.step, .int .i64 r.phase, .bool r.fresh, .slice ya r.vals.length yc, .slice yb r.mail.length yd] 34)).ownsRow W0.heap.size 75 2 (.slice yb r.mail.length yd) r.mail.length (r.mail.flatMap encM)) ∧ ((w4.alloc (.cells #[.int .i64 r.step, .int .i64 r.phase, .bool r.fresh, .slice ya r.vals.length yc, .slice yb r.mail.length yd] 34)).ownsRow W0.heap.size 73 2 (.slice ua s.vals.length uc) s.vals.length (s.vals.flatMap encM) ∧ (w4.alloc (.cells #[.int .i64 r.step, .int .i64 r.phase, .bool r.fresh, .slice ya r.vals.length yc, .slice yb r.mail.length yd] 34)).ownsRow W0.heap.size 75 2 (.slice ub s.mail.length ud) s.mail.length (s.mail.flatMap encM))) := by
            have h := N2.out.1.trans (hb4.mono hs3)
            have bA := hb4.alloc hb4.size (.cells #[.int .i64 r.step, .int .i64 r.phase, .bool r.fresh, .slice ya r.vals.length yc, .slice yb r.mail.length yd] 34)
            exact ⟨h.alloc h.size _, ⟨BX.new _ _ _, N2.out.2.1.below bA hl3⟩, ⟨own_below (own_lower hu1 hs3) (below_alloc _ _) (Nat.le_refl _), own_below (own_lower hu2 hs3) (below_alloc _ _) (Nat.le_refl _)⟩, own_below N2.out.2.2.1 bA (Nat.le_refl _), own_below N2.out.2.2.2 bA (Nat.le_refl _)⟩
          clear hu1 hu2 hb4 q0 N2
          go_upto_region 5 with fail
          generalize w4.alloc (.cells #[.int .i64 r.step, .int .i64 r.phase, .bool r.fresh, .slice ya r.vals.length yc, .slice yb r.mail.length yd] 34) = w5 at *
          generalize w4.heap.size = b5 at *
          obtain ⟨a5, ⟨y5, x5⟩, p5, o5⟩ := N4.out
          have A5 : Hid (Below W0.heap.size W0 w5) := a5
          have OA : Hid (w5.ownsRow W0.heap.size 73 2 (.slice ua s.vals.length uc) s.vals.length (s.vals.flatMap encM) ∧ w5.ownsRow W0.heap.size 75 2 (.slice ub s.mail.length ud) s.mail.length (s.mail.flatMap encM)) := o5
          have OB : Hid (w5.ownsRow W0.heap.size 73 2 (.slice ya r.vals.length yc) r.vals.length (r.vals.flatMap encM) ∧ w5.ownsRow W0.heap.size 75 2 (.slice yb r.mail.length yd) r.mail.length (r.mail.flatMap encM)) := p5
          obtain ⟨e0, e1, e2, e3, e4⟩ := x5.all5
          obtain ⟨g0, g1, g2, g3, g4⟩ := y5.all5
          clear a5 x5 y5 o5 p5 N4 CM C0 C1
          obtain ⟨m0, m1, m2, m3, m4⟩ := (HK.out _ A5.out).2.1.all5
          obtain ⟨f0, f1, f2, f3, f4⟩ := (HK.out _ A5.out).2.1.all5f
          have HX : Hid (P (.returned (.tuple #[.agg #[.int .i64 s.step, .int .i64 s.phase, .bool s.fresh, .slice ua s.vals.length uc, .slice ub s.mail.length ud], .int .i64 0])) (putS w5 (w.heap.size + 1) (.int .i64 s.step) (.int .i64 s.phase) (.bool s.fresh) (.slice ua s.vals.length uc) (.slice ub s.mail.length ud))) := HE.out _ _ _ (own_lower (own_off OA.out.1 (HK.out _ A5.out).2.1 (by decide) (kept_putS w5 (w.heap.size + 1) _ _ _ _ _)) (by omega)) (own_lower (own_off OA.out.2 (HK.out _ A5.out).2.1 (by decide) (kept_putS w5 (w.heap.size + 1) _ _ _ _ _)) (by omega)) (below_putS (HK.out _ A5.out).2.2.1 (Nat.le_succ _) _ _ _ _ _)
          have RX : Hid (BX 34 (putS w5 (w.heap.size + 1) (.int .i64 s.step) (.int .i64 s.phase) (.bool s.fresh) (.slice ua s.vals.length uc) (.slice ub s.mail.length ud)) (w.heap.size + 1) #[.int .i64 s.step, .int .i64 s.phase, .bool s.fresh, .slice ua s.vals.length uc, .slice ub s.mail.length ud]) := BX.putS (HK.out _ A5.out).2.1
          go_wp2_with fail
          obtain ⟨r0, r1, r2, r3, r4⟩ := RX.out.all5
          unfold putS at r0 r1 r2 r3 r4
          exact bodyPost_ret (v := .tuple #[.agg #[.int .i64 s.step, .int .i64 s.phase, .bool s.fresh, .slice ua s.vals.length uc, .slice ub s.mail.length ud], .int .i64 0]) (by simp [results, Tryd.results14, go_sem, r0, r1, r2, r3, r4]) rfl HX.out
      · have e3 : (t2 == 0) = false := by simp [h3]
        have HE : Hid (∀ v1 v2 w', w'.ownsRow w.heap.size 73 2 v1 s.vals.length (s.vals.flatMap encM) → w'.ownsRow w.heap.size 75 2 v2 s.mail.length (s.mail.flatMap encM) → Below w.heap.size w w' → P (.returned (.tuple #[.agg #[.int .i64 s.step, .int .i64 s.phase, .bool s.fresh, v1, v2], .int .i64 0])) w') := HY.out s 0 (KA.out ⟨h1, h2⟩ (.inl (fun h => h3 h.1)))
        clear HN HY KA KB KZ h1 h3
        go_enter Tryd.func14, Tryd.ntmps14
        go_upto_region 1 with fail
        rw [← hW0]
        clear hW0
        go_wp2_with fail
        refine (CM.out _ (HK.out _ A0.out).2.2.2).mono ?_
        rintro e w1 ⟨rfl, hb1⟩
        have A1 : Hid (Below W0.heap.size W0 w1) := hb1
        clear hb1 q0
        obtain ⟨q0, _⟩ := (HK.out _ A1.out).1.all1
        go_wp2_with fail
        refine (C0.out _ (HK.out _ A1.out).2.2.2).mono ?_
        rintro e w2 ⟨u1, u2, rfl, hu1, hu2, hb2⟩
        obtain ⟨ua, uc, rfl⟩ := (RowK.own encM_len hu1 : MlR w2 u1 s.vals).shape
        obtain ⟨ub, ud, rfl⟩ := (RowK.own encM_len hu2 : MlR w2 u2 s.mail).shape
        have hs1 := A1.out.size
        have N2 : Hid (Below W0.heap.size W0 (w2.alloc (.cells #[.int .i64 s.step, .int .i64 s.phase, .bool s.fresh, .slice ua s.vals.length uc, .slice ub s.mail.length ud] 34)) ∧ BX 34 (w2.alloc (.cells #[.int .i64 s.step, .int .i64 s.phase, .bool s.fresh, .slice ua s.vals.length uc, .slice ub s.mail.length ud] 34)) w2.heap.size #[.int .i64 s.step, .int .i64 s.phase, .bool s.fresh, .slice ua s.vals.length uc, .slice ub s.mail.length ud] ∧ ((w2.alloc (.cells #[.int .i64 s.step, .int .i64 s.phase, .bool s.fresh, .slice ua s.vals.length uc, .slice ub s.mail.length ud] 34)).ownsRow W0.heap.size 73 2 (.slice ua s.vals.length uc) s.vals.length (s.vals.flatMap encM) ∧ (w2.alloc (.cells #[.int .i64 s.step, .int .i64 s.phase, .bool s.fresh, .slice ua s.vals.length uc, .slice ub s.mail.length ud] 34)).ownsRow W0.heap.size 75 2 (.slice ub s.mail.length ud) s.mail.length (s.mail.flatMap encM))) := by
          have h := A1.out.trans (hb2.mono hs1)
          exact ⟨h.alloc h.size _, BX.new _ _ _, own_below (own_lower hu1 hs1) (below_alloc _ _) (Nat.le_refl _), own_below (own_lower hu2 hs1) (below_alloc _ _) (Nat.le_refl _)⟩
        clear hu1 hu2 hb2 hs1 q0 A1
        go_upto_region 4 with fail
        generalize w2.alloc (.cells #[.int .i64 s.step, .int .i64 s.phase, .bool s.fresh, .slice ua s.vals.length uc, .slice ub s.mail.length ud] 34) = w3 at *
        generalize w2.heap.size = b3 at *
        have hl3 := N2.out.2.1.lt
        have hs3 := N2.out.1.size
        obtain ⟨q0, _⟩ := (HK.out _ N2.out.1).1.all1
        go_wp2_with fail
        refine (C1.out _ (HK.out _ N2.out.1).2.2.2).mono ?_
        rintro e w4 ⟨u1, u2, rfl, hu1, hu2, hb4⟩
        obtain ⟨ya, yc, rfl⟩ := (RowK.own encM_len hu1 : MlR w4 u1 r.vals).shape
        obtain ⟨yb, yd, rfl⟩ := (RowK.own encM_len hu2 : MlR w4 u2 r.mail).shape
        have N4 : Hid (Below W0.heap.size W0 (w4.alloc (.cells #[.int .i64 r.step, .int .i64 r.phase, .bool r.fresh, .slice ya r.vals.length yc, .slice yb r.mail.length yd] 34)) ∧ (BX 34 (w4.alloc (.cells #[.int .i64 r.step, .int .i64 r.phase, .bool r.fresh, .slice ya r.vals.length yc, .slice yb r.mail.length yd] 34)) w4.heap.size #[.int .i64 r.step, .int .i64 r.phase, .bool r.fresh, .slice ya r.vals.length yc, .slice yb r.mail.length yd] ∧ BX 34 (w4.alloc (.cells #[.int .i64 r.step, .int .i64 r.phase, .bool r.fresh, .slice ya r.vals.length yc, .slice yb r.mail.length yd] 34)) b3 #[.int .i64 s.step, .int .i64 s.phase, .bool s.fresh, .slice ua s.vals.length uc, .slice ub s.mail.length ud]) ∧ ((w4.alloc (.cells #[.int .i64 r.step, .int .i64 r.phase, .bool r.fresh, .slice ya r.vals.length yc, .slice yb r.mail.length yd] 34)).ownsRow W0.heap.size 73 2 (.slice ya r.vals.length yc) r.vals.length (r.vals.flatMap encM) ∧ (w4.alloc (.cells #[.int .i64 r.step, .int .i64 r.phase, .bool r.fresh, .slice ya r.vals.length yc, .slice yb r.mail.length yd] 34)).ownsRow W0.heap.size 75 2 (.slice yb r.mail.length yd) r.mail.length (r.mail.flatMap encM)) ∧ ((w4.alloc (.cells #[.int .i64 r.step, .int .i64 r.phase, .bool r.fresh, .slice ya r.vals.length yc, .slice yb r.mail.length yd] 34)).ownsRow W0.heap.size 73 2 (.slice ua s.vals.length uc) s.vals.length (s.vals.flatMap encM) ∧ (w4.alloc (.cells #[.int .i64 r.step, .int .i64 r.phase, .bool r.fresh, .slice ya r.vals.length yc, .slice yb r.mail.length yd] 34)).ownsRow W0.heap.size 75 2 (.slice ub s.mail.length ud) s.mail.length (s.mail.flatMap encM))) := by
          have h := N2.out.1.trans (hb4.mono hs3)
          have bA := hb4.alloc hb4.size (.cells #[.int .i64 r.step, .int .i64 r.phase, .bool r.fresh, .slice ya r.vals.length yc, .slice yb r.mail.length yd] 34)
          exact ⟨h.alloc h.size _, ⟨BX.new _ _ _, N2.out.2.1.below bA hl3⟩, ⟨own_below (own_lower hu1 hs3) (below_alloc _ _) (Nat.le_refl _), own_below (own_lower hu2 hs3) (below_alloc _ _) (Nat.le_refl _)⟩, own_below N2.out.2.2.1 bA (Nat.le_refl _), own_below N2.out.2.2.2 bA (Nat.le_refl _)⟩
        clear hu1 hu2 hb4 q0 N2
        go_upto_region 5 with fail
        generalize w4.alloc (.cells #[.int .i64 r.step, .int .i64 r.phase, .bool r.fresh, .slice ya r.vals.length yc, .slice yb r.mail.length yd] 34) = w5 at *
        generalize w4.heap.size = b5 at *
        obtain ⟨a5, ⟨y5, x5⟩, p5, o5⟩ := N4.out
        have A5 : Hid (Below W0.heap.size W0 w5) := a5
        have OA : Hid (w5.ownsRow W0.heap.size 73 2 (.slice ua s.vals.length uc) s.vals.length (s.vals.flatMap encM) ∧ w5.ownsRow W0.heap.size 75 2 (.slice ub s.mail.length ud) s.mail.length (s.mail.flatMap encM)) := o5
        have OB : Hid (w5.ownsRow W0.heap.size 73 2 (.slice ya r.vals.length yc) r.vals.length (r.vals.flatMap encM) ∧ w5.ownsRow W0.heap.size 75 2 (.slice yb r.mail.length yd) r.mail.length (r.mail.flatMap encM)) := p5
        obtain ⟨e0, e1, e2, e3, e4⟩ := x5.all5
        obtain ⟨g0, g1, g2, g3, g4⟩ := y5.all5
        clear a5 x5 y5 o5 p5 N4 CM C0 C1
        obtain ⟨m0, m1, m2, m3, m4⟩ := (HK.out _ A5.out).2.1.all5
        obtain ⟨f0, f1, f2, f3, f4⟩ := (HK.out _ A5.out).2.1.all5f
        have HX : Hid (P (.returned (.tuple #[.agg #[.int .i64 s.step, .int .i64 s.phase, .bool s.fresh, .slice ua s.vals.length uc, .slice ub s.mail.length ud], .int .i64 0])) (putS w5 (w.heap.size + 1) (.int .i64 s.step) (.int .i64 s.phase) (.bool s.fresh) (.slice ua s.vals.length uc) (.slice ub s.mail.length ud))) := HE.out _ _ _ (own_lower (own_off OA.out.1 (HK.out _ A5.out).2.1 (by decide) (kept_putS w5 (w.heap.size + 1) _ _ _ _ _)) (by omega)) (own_lower (own_off OA.out.2 (HK.out _ A5.out).2.1 (by decide) (kept_putS w5 (w.heap.size + 1) _ _ _ _ _)) (by omega)) (below_putS (HK.out _ A5.out).2.2.1 (Nat.le_succ _) _ _ _ _ _)
        have RX : Hid (BX 34 (putS w5 (w.heap.size + 1) (.int .i64 s.step) (.int .i64 s.phase) (.bool s.fresh) (.slice ua s.vals.length uc) (.slice ub s.mail.length ud)) (w.heap.size + 1) #[.int .i64 s.step, .int .i64 s.phase, .bool s.fresh, .slice ua s.vals.length uc, .slice ub s.mail.length ud]) := BX.putS (HK.out _ A5.out).2.1
        go_wp2_with fail
        obtain ⟨r0, r1, r2, r3, r4⟩ := RX.out.all5
        unfold putS at r0 r1 r2 r3 r4
        exact bodyPost_ret (v := .tuple #[.agg #[.int .i64 s.step, .int .i64 s.phase, .bool s.fresh, .slice ua s.vals.length uc, .slice ub s.mail.length ud], .int .i64 0]) (by simp [results, Tryd.results14, go_sem, r0, r1, r2, r3, r4]) rfl HX.out
    · by_cases h3 : t2 = 0
      · have e3 : (t2 == 0) = true := by simp [h3]
        by_cases h4 : r.step ≤ n
        · have HE : Hid (∀ v1 v2 w', w'.ownsRow w.heap.size 73 2 v1 r.vals.length (r.vals.flatMap encM) → w'.ownsRow w.heap.size 75 2 v2 r.mail.length (r.mail.flatMap encM) → Below w.heap.size w w' → P (.returned (.tuple #[.agg #[.int .i64 r.step, .int .i64 r.phase, .bool r.fresh, v1, v2], .int .i64 0])) w') := HY.out r 0 (KB.out ⟨h3, h4⟩ (.inl (fun h => h2 h.2)))
          clear HN HY KA KB KZ h1 h3
          go_enter Tryd.func14, Tryd.ntmps14
          go_upto_region 1 with fail
          rw [← hW0]
          clear hW0
          go_wp2_with fail
          refine (CM.out _ (HK.out _ A0.out).2.2.2).mono ?_
          rintro e w1 ⟨rfl, hb1⟩
          have A1 : Hid (Below W0.heap.size W0 w1) := hb1
          clear hb1 q0
          obtain ⟨q0, _⟩ := (HK.out _ A1.out).1.all1
          go_wp2_with fail
          refine (C0.out _ (HK.out _ A1.out).2.2.2).mono ?_
          rintro e w2 ⟨u1, u2, rfl, hu1, hu2, hb2⟩
          obtain ⟨ua, uc, rfl⟩ := (RowK.own encM_len hu1 : MlR w2 u1 s.vals).shape
          obtain ⟨ub, ud, rfl⟩ := (RowK.own encM_len hu2 : MlR w2 u2 s.mail).shape
          have hs1 := A1.out.size
          have N2 : Hid (Below W0.heap.size W0 (w2.alloc (.cells #[.int .i64 s.step, .int .i64 s.phase, .bool s.fresh, .slice ua s.vals.length uc, .slice ub s.mail.length ud] 34)) ∧ BX 34 (w2.alloc (.cells #[.int .i64 s.step, .int .i64 s.phase, .bool s.fresh, .slice ua s.vals.length uc, .slice ub s.mail.length ud] 34)) w2.heap.size #[.int .i64 s.step, .int .i64 s.phase, .bool s.fresh, .slice ua s.vals.length uc, .slice ub s.mail.length ud] ∧ ((w2.alloc (.cells #[.int .i64 s.step, .int .i64 s.phase, .bool s.fresh, .slice ua s.vals.length uc, .slice ub s.mail.length ud] 34)).ownsRow W0.heap.size 73 2 (.slice ua s.vals.length uc) s.vals.length (s.vals.flatMap encM) ∧ (w2.alloc (.cells #[.int .i64 s.step, .int .i64 s.phase, .bool s.fresh, .slice ua s.vals.length uc, .slice ub s.mail.length ud] 34)).ownsRow W0.heap.size 75 2 (.slice ub s.mail.length ud) s.mail.length (s.mail.flatMap encM))) := by
            have h := A1.out.trans (hb2.mono hs1)
            exact ⟨h.alloc h.size _, BX.new _ _ _, own_below (own_lower hu1 hs1) (below_alloc _ _) (Nat.le_refl _), own_below (own_lower hu2 hs1) (below_alloc _ _) (Nat.le_refl _)⟩
          clear hu1 hu2 hb2 hs1 q0 A1
          go_upto_region 4 with fail
          generalize w2.alloc (.cells #[.int .i64 s.step, .int .i64 s.phase, .bool s.fresh, .slice ua s.vals.length uc, .slice ub s.mail.length ud] 34) = w3 at *
          generalize w2.heap.size = b3 at *
          have hl3 := N2.out.2.1.lt
          have hs3 := N2.out.1.size
          obtain ⟨q0, _⟩ := (HK.out _ N2.out.1).1.all1
          go_wp2_with fail
          refine (C1.out _ (HK.out _ N2.out.1).2.2.2).mono ?_
          rintro e w4 ⟨u1, u2, rfl, hu1, hu2, hb4⟩
          obtain ⟨ya, yc, rfl⟩ := (RowK.own encM_len hu1 : MlR w4 u1 r.vals).shape
          obtain ⟨yb, yd, rfl⟩ := (RowK.own encM_len hu2 : MlR w4 u2 r.mail).shape
          have N4 : Hid (Below W0.heap.size W0 (w4.alloc (.cells #[.int .i64 r.step, .int .i64 r.phase, .bool r.fresh, .slice ya r.vals.length yc, .slice yb r.mail.length yd] 34)) ∧ (BX 34 (w4.alloc (.cells #[.int .i64 r.step, .int .i64 r.phase, .bool r.fresh, .slice ya r.vals.length yc, .slice yb r.mail.length yd] 34)) w4.heap.size #[.int .i64 r.step, .int .i64 r.phase, .bool r.fresh, .slice ya r.vals.length yc, .slice yb r.mail.length yd] ∧ BX 34 (w4.alloc (.cells #[.int .i64 r.step, .int .i64 r.phase, .bool r.fresh, .slice ya r.vals.length yc, .slice yb r.mail.length yd] 34)) b3 #[.int .i64 s.step, .int .i64 s.phase, .bool s.fresh, .slice ua s.vals.length uc, .slice ub s.mail.length ud]) ∧ ((w4.alloc (.cells #[.int .i64 r.step, .int .i64 r.phase, .bool r.fresh, .slice ya r.vals.length yc, .slice yb r.mail.length yd] 34)).ownsRow W0.heap.size 73 2 (.slice ya r.vals.length yc) r.vals.length (r.vals.flatMap encM) ∧ (w4.alloc (.cells #[.int .i64 r.step, .int .i64 r.phase, .bool r.fresh, .slice ya r.vals.length yc, .slice yb r.mail.length yd] 34)).ownsRow W0.heap.size 75 2 (.slice yb r.mail.length yd) r.mail.length (r.mail.flatMap encM)) ∧ ((w4.alloc (.cells #[.int .i64 r.step, .int .i64 r.phase, .bool r.fresh, .slice ya r.vals.length yc, .slice yb r.mail.length yd] 34)).ownsRow W0.heap.size 73 2 (.slice ua s.vals.length uc) s.vals.length (s.vals.flatMap encM) ∧ (w4.alloc (.cells #[.int .i64 r.step, .int .i64 r.phase, .bool r.fresh, .slice ya r.vals.length yc, .slice yb r.mail.length yd] 34)).ownsRow W0.heap.size 75 2 (.slice ub s.mail.length ud) s.mail.length (s.mail.flatMap encM))) := by
            have h := N2.out.1.trans (hb4.mono hs3)
            have bA := hb4.alloc hb4.size (.cells #[.int .i64 r.step, .int .i64 r.phase, .bool r.fresh, .slice ya r.vals.length yc, .slice yb r.mail.length yd] 34)
            exact ⟨h.alloc h.size _, ⟨BX.new _ _ _, N2.out.2.1.below bA hl3⟩, ⟨own_below (own_lower hu1 hs3) (below_alloc _ _) (Nat.le_refl _), own_below (own_lower hu2 hs3) (below_alloc _ _) (Nat.le_refl _)⟩, own_below N2.out.2.2.1 bA (Nat.le_refl _), own_below N2.out.2.2.2 bA (Nat.le_refl _)⟩
          clear hu1 hu2 hb4 q0 N2
          go_upto_region 5 with fail
          generalize w4.alloc (.cells #[.int .i64 r.step, .int .i64 r.phase, .bool r.fresh, .slice ya r.vals.length yc, .slice yb r.mail.length yd] 34) = w5 at *
          generalize w4.heap.size = b5 at *
          obtain ⟨a5, ⟨y5, x5⟩, p5, o5⟩ := N4.out
          have A5 : Hid (Below W0.heap.size W0 w5) := a5
          have OA : Hid (w5.ownsRow W0.heap.size 73 2 (.slice ua s.vals.length uc) s.vals.length (s.vals.flatMap encM) ∧ w5.ownsRow W0.heap.size 75 2 (.slice ub s.mail.length ud) s.mail.length (s.mail.flatMap encM)) := o5
          have OB : Hid (w5.ownsRow W0.heap.size 73 2 (.slice ya r.vals.length yc) r.vals.length (r.vals.flatMap encM) ∧ w5.ownsRow W0.heap.size 75 2 (.slice yb r.mail.length yd) r.mail.length (r.mail.flatMap encM)) := p5
          obtain ⟨e0, e1, e2, e3, e4⟩ := x5.all5
          obtain ⟨g0, g1, g2, g3, g4⟩ := y5.all5
          clear a5 x5 y5 o5 p5 N4 CM C0 C1
          obtain ⟨m0, m1, m2, m3, m4⟩ := (HK.out _ A5.out).2.1.all5
          obtain ⟨f0, f1, f2, f3, f4⟩ := (HK.out _ A5.out).2.1.all5f
          have HX : Hid (P (.returned (.tuple #[.agg #[.int .i64 r.step, .int .i64 r.phase, .bool r.fresh, .slice ya r.vals.length yc, .slice yb r.mail.length yd], .int .i64 0])) (putS w5 (w.heap.size + 1) (.int .i64 r.step) (.int .i64 r.phase) (.bool r.fresh) (.slice ya r.vals.length yc) (.slice yb r.mail.length yd))) := HE.out _ _ _ (own_lower (own_off OB.out.1 (HK.out _ A5.out).2.1 (by decide) (kept_putS w5 (w.heap.size + 1) _ _ _ _ _)) (by omega)) (own_lower (own_off OB.out.2 (HK.out _ A5.out).2.1 (by decide) (kept_putS w5 (w.heap.size + 1) _ _ _ _ _)) (by omega)) (below_putS (HK.out _ A5.out).2.2.1 (Nat.le_succ _) _ _ _ _ _)
          have RX : Hid (BX 34 (putS w5 (w.heap.size + 1) (.int .i64 r.step) (.int .i64 r.phase) (.bool r.fresh) (.slice ya r.vals.length yc) (.slice yb r.mail.length yd)) (w.heap.size + 1) #[.int .i64 r.step, .int .i64 r.phase, .bool r.fresh, .slice ya r.vals.length yc, .slice yb r.mail.length yd]) := BX.putS (HK.out _ A5.out).2.1
          go_wp2_with fail
          obtain ⟨r0, r1, r2, r3, r4⟩ := RX.out.all5
          unfold putS at r0 r1 r2 r3 r4
          exact bodyPost_ret (v := .tuple #[.agg #[.int .i64 r.step, .int .i64 r.phase, .bool r.fresh, .slice ya r.vals.length yc, .slice yb r.mail.length yd], .int .i64 0]) (by simp [results, Tryd.results14, go_sem, r0, r1, r2, r3, r4]) rfl HX.out
        · have HE : Hid (∀ w', Below w.heap.size w w' → P (.returned (.tuple #[.agg #[.int .i64 0, .int .i64 0, .bool false, .slice none 0 0, .slice none 0 0], .int .i64 7])) w') := HN.out 7 (KZ.out (fun h => h2 h.2) (fun h => h4 h.2))
          clear HN HY KA KB KZ h1 h3
          go_enter Tryd.func14, Tryd.ntmps14
          go_upto_region 1 with fail
          rw [← hW0]
          clear hW0
          go_wp2_with fail
          refine (CM.out _ (HK.out _ A0.out).2.2.2).mono ?_
          rintro e w1 ⟨rfl, hb1⟩
          have A1 : Hid (Below W0.heap.size W0 w1) := hb1
          clear hb1 q0
          obtain ⟨q0, _⟩ := (HK.out _ A1.out).1.all1
          go_wp2_with fail
          refine (C0.out _ (HK.out _ A1.out).2.2.2).mono ?_
          rintro e w2 ⟨u1, u2, rfl, hu1, hu2, hb2⟩
          obtain ⟨ua, uc, rfl⟩ := (RowK.own encM_len hu1 : MlR w2 u1 s.vals).shape
          obtain ⟨ub, ud, rfl⟩ := (RowK.own encM_len hu2 : MlR w2 u2 s.mail).shape
          have hs1 := A1.out.size
          have N2 : Hid (Below W0.heap.size W0 (w2.alloc (.cells #[.int .i64 s.step, .int .i64 s.phase, .bool s.fresh, .slice ua s.vals.length uc, .slice ub s.mail.length ud] 34)) ∧ BX 34 (w2.alloc (.cells #[.int .i64 s.step, .int .i64 s.phase, .bool s.fresh, .slice ua s.vals.length uc, .slice ub s.mail.length ud] 34)) w2.heap.size #[.int .i64 s.step, .int .i64 s.phase, .bool s.fresh, .slice ua s.vals.length uc, .slice ub s.mail.length ud] ∧ ((w2.alloc (.cells #[.int .i64 s.step, .int .i64 s.phase, .bool s.fresh, .slice ua s.vals.length uc, .slice ub s.mail.length ud] 34)).ownsRow W0.heap.size 73 2 (.slice ua s.vals.length uc) s.vals.length (s.vals.flatMap encM) ∧ (w2.alloc (.cells #[.int .i64 s.step, .int .i64 s.phase, .bool s.fresh, .slice ua s.vals.length uc, .slice ub s.mail.length ud] 34)).ownsRow W0.heap.size 75 2 (.slice ub s.mail.length ud) s.mail.length (s.mail.flatMap encM))) := by
            have h := A1.out.trans (hb2.mono hs1)
            exact ⟨h.alloc h.size _, BX.new _ _ _, own_below (own_lower hu1 hs1) (below_alloc _ _) (Nat.le_refl _), own_below (own_lower hu2 hs1) (below_alloc _ _) (Nat.le_refl _)⟩
          clear hu1 hu2 hb2 hs1 q0 A1
          go_upto_region 4 with fail
          generalize w2.alloc (.cells #[.int .i64 s.step, .int .i64 s.phase, .bool s.fresh, .slice ua s.vals.length uc, .slice ub s.mail.length ud] 34) = w3 at *
          generalize w2.heap.size = b3 at *
          have hl3 := N2.out.2.1.lt
          have hs3 := N2.out.1.size
          obtain ⟨q0, _⟩ := (HK.out _ N2.out.1).1.all1
          go_wp2_with fail
          refine (C1.out _ (HK.out _ N2.out.1).2.2.2).mono ?_
          rintro e w4 ⟨u1, u2, rfl, hu1, hu2, hb4⟩
          obtain ⟨ya, yc, rfl⟩ := (RowK.own encM_len hu1 : MlR w4 u1 r.vals).shape
          obtain ⟨yb, yd, rfl⟩ := (RowK.own encM_len hu2 : MlR w4 u2 r.mail).shape
          have N4 : Hid (Below W0.heap.size W0 (w4.alloc (.cells #[.int .i64 r.step, .int .i64 r.phase, .bool r.fresh, .slice ya r.vals.length yc, .slice yb r.mail.length yd] 34)) ∧ (BX 34 (w4.alloc (.cells #[.int .i64 r.step, .int .i64 r.phase, .bool r.fresh, .slice ya r.vals.length yc, .slice yb r.mail.length yd] 34)) w4.heap.size #[.int .i64 r.step, .int .i64 r.phase, .bool r.fresh, .slice ya r.vals.length yc, .slice yb r.mail.length yd] ∧ BX 34 (w4.alloc (.cells #[.int .i64 r.step, .int .i64 r.phase, .bool r.fresh, .slice ya r.vals.length yc, .slice yb r.mail.length yd] 34)) b3 #[.int .i64 s.step, .int .i64 s.phase, .bool s.fresh, .slice ua s.vals.length uc, .slice ub s.mail.length ud]) ∧ ((w4.alloc (.cells #[.int .i64 r.step, .int .i64 r.phase, .bool r.fresh, .slice ya r.vals.length yc, .slice yb r.mail.length yd] 34)).ownsRow W0.heap.size 73 2 (.slice ya r.vals.length yc) r.vals.length (r.vals.flatMap encM) ∧ (w4.alloc (.cells #[.int .i64 r.step, .int .i64 r.phase, .bool r.fresh, .slice ya r.vals.length yc, .slice yb r.mail.length yd] 34)).ownsRow W0.heap.size 75 2 (.slice yb r.mail.length yd) r.mail.length (r.mail.flatMap encM)) ∧ ((w4.alloc (.cells #[.int .i64 r.step, .int .i64 r.phase, .bool r.fresh, .slice ya r.vals.length yc, .slice yb r.mail.length yd] 34)).ownsRow W0.heap.size 73 2 (.slice ua s.vals.length uc) s.vals.length (s.vals.flatMap encM) ∧ (w4.alloc (.cells #[.int .i64 r.step, .int .i64 r.phase, .bool r.fresh, .slice ya r.vals.length yc, .slice yb r.mail.length yd] 34)).ownsRow W0.heap.size 75 2 (.slice ub s.mail.length ud) s.mail.length (s.mail.flatMap encM))) := by
            have h := N2.out.1.trans (hb4.mono hs3)
            have bA := hb4.alloc hb4.size (.cells #[.int .i64 r.step, .int .i64 r.phase, .bool r.fresh, .slice ya r.vals.length yc, .slice yb r.mail.length yd] 34)
            exact ⟨h.alloc h.size _, ⟨BX.new _ _ _, N2.out.2.1.below bA hl3⟩, ⟨own_below (own_lower hu1 hs3) (below_alloc _ _) (Nat.le_refl _), own_below (own_lower hu2 hs3) (below_alloc _ _) (Nat.le_refl _)⟩, own_below N2.out.2.2.1 bA (Nat.le_refl _), own_below N2.out.2.2.2 bA (Nat.le_refl _)⟩
          clear hu1 hu2 hb4 q0 N2
          go_upto_region 5 with fail
          generalize w4.alloc (.cells #[.int .i64 r.step, .int .i64 r.phase, .bool r.fresh, .slice ya r.vals.length yc, .slice yb r.mail.length yd] 34) = w5 at *
          generalize w4.heap.size = b5 at *
          obtain ⟨a5, ⟨y5, x5⟩, p5, o5⟩ := N4.out
          have A5 : Hid (Below W0.heap.size W0 w5) := a5
          have OA : Hid (w5.ownsRow W0.heap.size 73 2 (.slice ua s.vals.length uc) s.vals.length (s.vals.flatMap encM) ∧ w5.ownsRow W0.heap.size 75 2 (.slice ub s.mail.length ud) s.mail.length (s.mail.flatMap encM)) := o5
          have OB : Hid (w5.ownsRow W0.heap.size 73 2 (.slice ya r.vals.length yc) r.vals.length (r.vals.flatMap encM) ∧ w5.ownsRow W0.heap.size 75 2 (.slice yb r.mail.length yd) r.mail.length (r.mail.flatMap encM)) := p5
          obtain ⟨e0, e1, e2, e3, e4⟩ := x5.all5
          obtain ⟨g0, g1, g2, g3, g4⟩ := y5.all5
          clear a5 x5 y5 o5 p5 N4 CM C0 C1
          obtain ⟨m0, m1, m2, m3, m4⟩ := (HK.out _ A5.out).2.1.all5
          obtain ⟨f0, f1, f2, f3, f4⟩ := (HK.out _ A5.out).2.1.all5f
          have HX : Hid (P (.returned (.tuple #[.agg #[.int .i64 0, .int .i64 0, .bool false, .slice none 0 0, .slice none 0 0], .int .i64 7])) (putS w5 (w.heap.size + 1) (.int .i64 0) (.int .i64 0) (.bool false) (.slice none 0 0) (.slice none 0 0))) := HE.out _ (below_putS (HK.out _ A5.out).2.2.1 (Nat.le_succ _) _ _ _ _ _)
          have RX : Hid (BX 34 (putS w5 (w.heap.size + 1) (.int .i64 0) (.int .i64 0) (.bool false) (.slice none 0 0) (.slice none 0 0)) (w.heap.size + 1) #[.int .i64 0, .int .i64 0, .bool false, .slice none 0 0, .slice none 0 0]) := BX.putS (HK.out _ A5.out).2.1
          go_wp2_with fail
          obtain ⟨r0, r1, r2, r3, r4⟩ := RX.out.all5
          unfold putS at r0 r1 r2 r3 r4
          exact bodyPost_ret (v := .tuple #[.agg #[.int .i64 0, .int .i64 0, .bool false, .slice none 0 0, .slice none 0 0], .int .i64 7]) (by simp [results, Tryd.results14, go_sem, r0, r1, r2, r3, r4]) rfl HX.out
      · have e3 : (t2 == 0) = false := by simp [h3]
        have HE : Hid (∀ w', Below w.heap.size w w' → P (.returned (.tuple #[.agg #[.int .i64 0, .int .i64 0, .bool false, .slice none 0 0, .slice none 0 0], .int .i64 7])) w') := HN.out 7 (KZ.out (fun h => h2 h.2) (fun h => h3 h.1))
        clear HN HY KA KB KZ h1 h3
        go_enter Tryd.func14, Tryd.ntmps14
        go_upto_region 1 with fail
        rw [← hW0]
        clear hW0
        go_wp2_with fail
        refine (CM.out _ (HK.out _ A0.out).2.2.2).mono ?_
        rintro e w1 ⟨rfl, hb1⟩
        have A1 : Hid (Below W0.heap.size W0 w1) := hb1
        clear hb1 q0
        obtain ⟨q0, _⟩ := (HK.out _ A1.out).1.all1
        go_wp2_with fail
        refine (C0.out _ (HK.out _ A1.out).2.2.2).mono ?_
        rintro e w2 ⟨u1, u2, rfl, hu1, hu2, hb2⟩
        obtain ⟨ua, uc, rfl⟩ := (RowK.own encM_len hu1 : MlR w2 u1 s.vals).shape
        obtain ⟨ub, ud, rfl⟩ := (RowK.own encM_len hu2 : MlR w2 u2 s.mail).shape
        have hs1 := A1.out.size
        have N2 : Hid (Below W0.heap.size W0 (w2.alloc (.cells #[.int .i64 s.step, .int .i64 s.phase, .bool s.fresh, .slice ua s.vals.length uc, .slice ub s.mail.length ud] 34)) ∧ BX 34 (w2.alloc (.cells #[.int .i64 s.step, .int .i64 s.phase, .bool s.fresh, .slice ua s.vals.length uc, .slice ub s.mail.length ud] 34)) w2.heap.size #[.int .i64 s.step, .int .i64 s.phase, .bool s.fresh, .slice ua s.vals.length uc, .slice ub s.mail.length ud] ∧ ((w2.alloc (.cells #[.int .i64 s.step, .int .i64 s.phase, .bool s.fresh, .slice ua s.vals.length uc, .slice ub s.mail.length ud] 34)).ownsRow W0.heap.size 73 2 (.slice ua s.vals.length uc) s.vals.length (s.vals.flatMap encM) ∧ (w2.alloc (.cells #[.int .i64 s.step, .int .i64 s.phase, .bool s.fresh, .slice ua s.vals.length uc, .slice ub s.mail.length ud] 34)).ownsRow W0.heap.size 75 2 (.slice ub s.mail.length ud) s.mail.length (s.mail.flatMap encM))) := by
          have h := A1.out.trans (hb2.mono hs1)
          exact ⟨h.alloc h.size _, BX.new _ _ _, own_below (own_lower hu1 hs1) (below_alloc _ _) (Nat.le_refl _), own_below (own_lower hu2 hs1) (below_alloc _ _) (Nat.le_refl _)⟩
        clear hu1 hu2 hb2 hs1 q0 A1
        go_upto_region 4 with fail
        generalize w2.alloc (.cells #[.int .i64 s.step, .int .i64 s.phase, .bool s.fresh, .slice ua s.vals.length uc, .slice ub s.mail.length ud] 34) = w3 at *
        generalize w2.heap.size = b3 at *
        have hl3 := N2.out.2.1.lt
        have hs3 := N2.out.1.size
        obtain ⟨q0, _⟩ := (HK.out _ N2.out.1).1.all1
        go_wp2_with fail
        refine (C1.out _ (HK.out _ N2.out.1).2.2.2).mono ?_
        rintro e w4 ⟨u1, u2, rfl, hu1, hu2, hb4⟩
        obtain ⟨ya, yc, rfl⟩ := (RowK.own encM_len hu1 : MlR w4 u1 r.vals).shape
        obtain ⟨yb, yd, rfl⟩ := (RowK.own encM_len hu2 : MlR w4 u2 r.mail).shape
        have N4 : Hid (Below W0.heap.size W0 (w4.alloc (.cells #[.int .i64 r.step, .int .i64 r.phase, .bool r.fresh, .slice ya r.vals.length yc, .slice yb r.mail.length yd] 34)) ∧ (BX 34 (w4.alloc (.cells #[.int .i64 r.step, .int .i64 r.phase, .bool r.fresh, .slice ya r.vals.length yc, .slice yb r.mail.length yd] 34)) w4.heap.size #[.int .i64 r.step, .int .i64 r.phase, .bool r.fresh, .slice ya r.vals.length yc, .slice yb r.mail.length yd] ∧ BX 34 (w4.alloc (.cells #[.int .i64 r.step, .int .i64 r.phase, .bool r.fresh, .slice ya r.vals.length yc, .slice yb r.mail.length yd] 34)) b3 #[.int .i64 s.step, .int .i64 s.phase, .bool s.fresh, .slice ua s.vals.length uc, .slice ub s.mail.length ud]) ∧ ((w4.alloc (.cells #[.int .i64 r.step, .int .i64 r.phase, .bool r.fresh, .slice ya r.vals.length yc, .slice yb r.mail.length yd] 34)).ownsRow W0.heap.size 73 2 (.slice ya r.vals.length yc) r.vals.length (r.vals.flatMap encM) ∧ (w4.alloc (.cells #[.int .i64 r.step, .int .i64 r.phase, .bool r.fresh, .slice ya r.vals.length yc, .slice yb r.mail.length yd] 34)).ownsRow W0.heap.size 75 2 (.slice yb r.mail.length yd) r.mail.length (r.mail.flatMap encM)) ∧ ((w4.alloc (.cells #[.int .i64 r.step, .int .i64 r.phase, .bool r.fresh, .slice ya r.vals.length yc, .slice yb r.mail.length yd] 34)).ownsRow W0.heap.size 73 2 (.slice ua s.vals.length uc) s.vals.length (s.vals.flatMap encM) ∧ (w4.alloc (.cells #[.int .i64 r.step, .int .i64 r.phase, .bool r.fresh, .slice ya r.vals.length yc, .slice yb r.mail.length yd] 34)).ownsRow W0.heap.size 75 2 (.slice ub s.mail.length ud) s.mail.length (s.mail.flatMap encM))) := by
          have h := N2.out.1.trans (hb4.mono hs3)
          have bA := hb4.alloc hb4.size (.cells #[.int .i64 r.step, .int .i64 r.phase, .bool r.fresh, .slice ya r.vals.length yc, .slice yb r.mail.length yd] 34)
          exact ⟨h.alloc h.size _, ⟨BX.new _ _ _, N2.out.2.1.below bA hl3⟩, ⟨own_below (own_lower hu1 hs3) (below_alloc _ _) (Nat.le_refl _), own_below (own_lower hu2 hs3) (below_alloc _ _) (Nat.le_refl _)⟩, own_below N2.out.2.2.1 bA (Nat.le_refl _), own_below N2.out.2.2.2 bA (Nat.le_refl _)⟩
        clear hu1 hu2 hb4 q0 N2
        go_upto_region 5 with fail
        generalize w4.alloc (.cells #[.int .i64 r.step, .int .i64 r.phase, .bool r.fresh, .slice ya r.vals.length yc, .slice yb r.mail.length yd] 34) = w5 at *
        generalize w4.heap.size = b5 at *
        obtain ⟨a5, ⟨y5, x5⟩, p5, o5⟩ := N4.out
        have A5 : Hid (Below W0.heap.size W0 w5) := a5
        have OA : Hid (w5.ownsRow W0.heap.size 73 2 (.slice ua s.vals.length uc) s.vals.length (s.vals.flatMap encM) ∧ w5.ownsRow W0.heap.size 75 2 (.slice ub s.mail.length ud) s.mail.length (s.mail.flatMap encM)) := o5
        have OB : Hid (w5.ownsRow W0.heap.size 73 2 (.slice ya r.vals.length yc) r.vals.length (r.vals.flatMap encM) ∧ w5.ownsRow W0.heap.size 75 2 (.slice yb r.mail.length yd) r.mail.length (r.mail.flatMap encM)) := p5
        obtain ⟨e0, e1, e2, e3, e4⟩ := x5.all5
        obtain ⟨g0, g1, g2, g3, g4⟩ := y5.all5
        clear a5 x5 y5 o5 p5 N4 CM C0 C1
        obtain ⟨m0, m1, m2, m3, m4⟩ := (HK.out _ A5.out).2.1.all5
        obtain ⟨f0, f1, f2, f3, f4⟩ := (HK.out _ A5.out).2.1.all5f
        have HX : Hid (P (.returned (.tuple #[.agg #[.int .i64 0, .int .i64 0, .bool false, .slice none 0 0, .slice none 0 0], .int .i64 7])) (putS w5 (w.heap.size + 1) (.int .i64 0) (.int .i64 0) (.bool false) (.slice none 0 0) (.slice none 0 0))) := HE.out _ (below_putS (HK.out _ A5.out).2.2.1 (Nat.le_succ _) _ _ _ _ _)
        have RX : Hid (BX 34 (putS w5 (w.heap.size + 1) (.int .i64 0) (.int .i64 0) (.bool false) (.slice none 0 0) (.slice none 0 0)) (w.heap.size + 1) #[.int .i64 0, .int .i64 0, .bool false, .slice none 0 0, .slice none 0 0]) := BX.putS (HK.out _ A5.out).2.1
        go_wp2_with fail
        obtain ⟨r0, r1, r2, r3, r4⟩ := RX.out.all5
        unfold putS at r0 r1 r2 r3 r4
        exact bodyPost_ret (v := .tuple #[.agg #[.int .i64 0, .int .i64 0, .bool false, .slice none 0 0, .slice none 0 0], .int .i64 7]) (by simp [results, Tryd.results14, go_sem, r0, r1, r2, r3, r4]) rfl HX.out
  · have e1 : (t1 == 0) = false := by simp [h1]
    by_cases h3 : t2 = 0
    · have e3 : (t2 == 0) = true := by simp [h3]
      by_cases h4 : r.step ≤ n
      · have HE : Hid (∀ v1 v2 w', w'.ownsRow w.heap.size 73 2 v1 r.vals.length (r.vals.flatMap encM) → w'.ownsRow w.heap.size 75 2 v2 r.mail.length (r.mail.flatMap encM) → Below w.heap.size w w' → P (.returned (.tuple #[.agg #[.int .i64 r.step, .int .i64 r.phase, .bool r.fresh, v1, v2], .int .i64 0])) w') := HY.out r 0 (KB.out ⟨h3, h4⟩ (.inl (fun h => h1 h.1)))
        clear HN HY KA KB KZ h1 h3
        go_enter Tryd.func14, Tryd.ntmps14
        go_upto_region 1 with fail
        rw [← hW0]
        clear hW0
        go_wp2_with fail
        refine (CM.out _ (HK.out _ A0.out).2.2.2).mono ?_
        rintro e w1 ⟨rfl, hb1⟩
        have A1 : Hid (Below W0.heap.size W0 w1) := hb1
        clear hb1 q0
        obtain ⟨q0, _⟩ := (HK.out _ A1.out).1.all1
        go_wp2_with fail
        refine (C0.out _ (HK.out _ A1.out).2.2.2).mono ?_
        rintro e w2 ⟨u1, u2, rfl, hu1, hu2, hb2⟩
        obtain ⟨ua, uc, rfl⟩ := (RowK.own encM_len hu1 : MlR w2 u1 s.vals).shape
        obtain ⟨ub, ud, rfl⟩ := (RowK.own encM_len hu2 : MlR w2 u2 s.mail).shape
        have hs1 := A1.out.size
        have N2 : Hid (Below W0.heap.size W0 (w2.alloc (.cells #[.int .i64 s.step, .int .i64 s.phase, .bool s.fresh, .slice ua s.vals.length uc, .slice ub s.mail.length ud] 34)) ∧ BX 34 (w2.alloc (.cells #[.int .i64 s.step, .int .i64 s.phase, .bool s.fresh, .slice ua s.vals.length uc, .slice ub s.mail.length ud] 34)) w2.heap.size #[.int .i64 s.step, .int .i64 s.phase, .bool s.fresh, .slice ua s.vals.length uc, .slice ub s.mail.length ud] ∧ ((w2.alloc (.cells #[.int .i64 s.step, .int .i64 s.phase, .bool s.fresh, .slice ua s.vals.length uc, .slice ub s.mail.length ud] 34)).ownsRow W0.heap.size 73 2 (.slice ua s.vals.length uc) s.vals.length (s.vals.flatMap encM) ∧ (w2.alloc (.cells #[.int .i64 s.step, .int .i64 s.phase, .bool s.fresh, .slice ua s.vals.length uc, .slice ub s.mail.length ud] 34)).ownsRow W0.heap.size 75 2 (.slice ub s.mail.length ud) s.mail.length (s.mail.flatMap encM))) := by
          have h := A1.out.trans (hb2.mono hs1)
          exact ⟨h.alloc h.size _, BX.new _ _ _, own_below (own_lower hu1 hs1) (below_alloc _ _) (Nat.le_refl _), own_below (own_lower hu2 hs1) (below_alloc _ _) (Nat.le_refl _)⟩
        clear hu1 hu2 hb2 hs1 q0 A1
        go_upto_region 4 with fail
        generalize w2.alloc (.cells #[.int .i64 s.step, .int .i64 s.phase, .bool s.fresh, .slice ua s.vals.length uc, .slice ub s.mail.length ud] 34) = w3 at *
        generalize w2.heap.size = b3 at *
        have hl3 := N2.out.2.1.lt
        have hs3 := N2.out.1.size
        obtain ⟨q0, _⟩ := (HK.out _ N2.out.1).1.all1
        go_wp2_with fail
        refine (C1.out _ (HK.out _ N2.out.1).2.2.2).mono ?_
        rintro e w4 ⟨u1, u2, rfl, hu1, hu2, hb4⟩
        obtain ⟨ya, yc, rfl⟩ := (RowK.own encM_len hu1 : MlR w4 u1 r.vals).shape
        obtain ⟨yb, yd, rfl⟩ := (RowK.own encM_len hu2 : MlR w4 u2 r.mail).shape
        have N4 : Hid (Below W0.heap.size W0 (w4.alloc (.cells #[.int .i64 r.step, .int .i64 r.phase, .bool r.fresh, .slice ya r.vals.length yc, .slice yb r.mail.length yd] 34)) ∧ (BX 34 (w4.alloc (.cells #[.int .i64 r.step, .int .i64 r.phase, .bool r.fresh, .slice ya r.vals.length yc, .slice yb r.mail.length yd] 34)) w4.heap.size #[.int .i64 r.step, .int .i64 r.phase, .bool r.fresh, .slice ya r.vals.length yc, .slice yb r.mail.length yd] ∧ BX 34 (w4.alloc (.cells #[.int .i64 r.step, .int .i64 r.phase, .bool r.fresh, .slice ya r.vals.length yc, .slice yb r.mail.length yd] 34)) b3 #[.int .i64 s.step, .int .i64 s.phase, .bool s.fresh, .slice ua s.vals.length uc, .slice ub s.mail.length ud]) ∧ ((w4.alloc (.cells #[.int .i64 r.step, .int .i64 r.phase, .bool r.fresh, .slice ya r.vals.length yc, .slice yb r.mail.length yd] 34)).ownsRow W0.heap.size 73 2 (.slice ya r.vals.length yc) r.vals.length (r.vals.flatMap encM) ∧ (w4.alloc (.cells #[.int .i64 r.step, .int .i64 r.phase, .bool r.fresh, .slice ya r.vals.length yc, .slice yb r.mail.length yd] 34)).ownsRow W0.heap.size 75 2 (.slice yb r.mail.length yd) r.mail.length (r.mail.flatMap encM)) ∧ ((w4.alloc (.cells #[.int .i64 r.step, .int .i64 r.phase, .bool r.fresh, .slice ya r.vals.length yc, .slice yb r.mail.length yd] 34)).ownsRow W0.heap.size 73 2 (.slice ua s.vals.length uc) s.vals.length (s.vals.flatMap encM) ∧ (w4.alloc (.cells #[.int .i64 r.step, .int .i64 r.phase, .bool r.fresh, .slice ya r.vals.length yc, .slice yb r.mail.length yd] 34)).ownsRow W0.heap.size 75 2 (.slice ub s.mail.length ud) s.mail.length (s.mail.flatMap encM))) := by
          have h := N2.out.1.trans (hb4.mono hs3)
          have bA := hb4.alloc hb4.size (.cells #[.int .i64 r.step, .int .i64 r.phase, .bool r.fresh, .slice ya r.vals.length yc, .slice yb r.mail.length yd] 34)
          exact ⟨h.alloc h.size _, ⟨BX.new _ _ _, N2.out.2.1.below bA hl3⟩, ⟨own_below (own_lower hu1 hs3) (below_alloc _ _) (Nat.le_refl _), own_below (own_lower hu2 hs3) (below_alloc _ _) (Nat.le_refl _)⟩, own_below N2.out.2.2.1 bA (Nat.le_refl _), own_below N2.out.2.2.2 bA (Nat.le_refl _)⟩
        clear hu1 hu2 hb4 q0 N2
        go_upto_region 5 with fail
        generalize w4.alloc (.cells #[.int .i64 r.step, .int .i64 r.phase, .bool r.fresh, .slice ya r.vals.length yc, .slice yb r.mail.length yd] 34) = w5 at *
        generalize w4.heap.size = b5 at *
        obtain ⟨a5, ⟨y5, x5⟩, p5, o5⟩ := N4.out
        have A5 : Hid (Below W0.heap.size W0 w5) := a5
        have OA : Hid (w5.ownsRow W0.heap.size 73 2 (.slice ua s.vals.length uc) s.vals.length (s.vals.flatMap encM) ∧ w5.ownsRow W0.heap.size 75 2 (.slice ub s.mail.length ud) s.mail.length (s.mail.flatMap encM)) := o5
        have OB : Hid (w5.ownsRow W0.heap.size 73 2 (.slice ya r.vals.length yc) r.vals.length (r.vals.flatMap encM) ∧ w5.ownsRow W0.heap.size 75 2 (.slice yb r.mail.length yd) r.mail.length (r.mail.flatMap encM)) := p5
        obtain ⟨e0, e1, e2, e3, e4⟩ := x5.all5
        obtain ⟨g0, g1, g2, g3, g4⟩ := y5.all5
        clear a5 x5 y5 o5 p5 N4 CM C0 C1
        obtain ⟨m0, m1, m2, m3, m4⟩ := (HK.out _ A5.out).2.1.all5
        obtain ⟨f0, f1, f2, f3, f4⟩ := (HK.out _ A5.out).2.1.all5f
        have HX : Hid (P (.returned (.tuple #[.agg #[.int .i64 r.step, .int .i64 r.phase, .bool r.fresh, .slice ya r.vals.length yc, .slice yb r.mail.length yd], .int .i64 0])) (putS w5 (w.heap.size + 1) (.int .i64 r.step) (.int .i64 r.phase) (.bool r.fresh) (.slice ya r.vals.length yc) (.slice yb r.mail.length yd))) := HE.out _ _ _ (own_lower (own_off OB.out.1 (HK.out _ A5.out).2.1 (by decide) (kept_putS w5 (w.heap.size + 1) _ _ _ _ _)) (by omega)) (own_lower (own_off OB.out.2 (HK.out _ A5.out).2.1 (by decide) (kept_putS w5 (w.heap.size + 1) _ _ _ _ _)) (by omega)) (below_putS (HK.out _ A5.out).2.2.1 (Nat.le_succ _) _ _ _ _ _)
        have RX : Hid (BX 34 (putS w5 (w.heap.size + 1) (.int .i64 r.step) (.int .i64 r.phase) (.bool r.fresh) (.slice ya r.vals.length yc) (.slice yb r.mail.length yd)) (w.heap.size + 1) #[.int .i64 r.step, .int .i64 r.phase, .bool r.fresh, .slice ya r.vals.length yc, .slice yb r.mail.length yd]) := BX.putS (HK.out _ A5.out).2.1
        go_wp2_with fail
        obtain ⟨r0, r1, r2, r3, r4⟩ := RX.out.all5
        unfold putS at r0 r1 r2 r3 r4
        exact bodyPost_ret (v := .tuple #[.agg #[.int .i64 r.step, .int .i64 r.phase, .bool r.fresh, .slice ya r.vals.length yc, .slice yb r.mail.length yd], .int .i64 0]) (by simp [results, Tryd.results14, go_sem, r0, r1, r2, r3, r4]) rfl HX.out
      · have HE : Hid (∀ w', Below w.heap.size w w' → P (.returned (.tuple #[.agg #[.int .i64 0, .int .i64 0, .bool false, .slice none 0 0, .slice none 0 0], .int .i64 7])) w') := HN.out 7 (KZ.out (fun h => h1 h.1) (fun h => h4 h.2))
        clear HN HY KA KB KZ h1 h3
        go_enter Tryd.func14, Tryd.ntmps14
        go_upto_region 1 with fail
        rw [← hW0]
        clear hW0
        go_wp2_with fail
        refine (CM.out _ (HK.out _ A0.out).2.2.2).mono ?_
        rintro e w1 ⟨rfl, hb1⟩
        have A1 : Hid (Below W0.heap.size W0 w1) := hb1
        clear hb1 q0
        obtain ⟨q0, _⟩ := (HK.out _ A1.out).1.all1
        go_wp2_with fail
        refine (C0.out _ (HK.out _ A1.out).2.2.2).mono ?_
        rintro e w2 ⟨u1, u2, rfl, hu1, hu2, hb2⟩
        obtain ⟨ua, uc, rfl⟩ := (RowK.own encM_len hu1 : MlR w2 u1 s.vals).shape
        obtain ⟨ub, ud, rfl⟩ := (RowK.own encM_len hu2 : MlR w2 u2 s.mail).shape
        have hs1 := A1.out.size
        have N2 : Hid (Below W0.heap.size W0 (w2.alloc (.cells #[.int .i64 s.step, .int .i64 s.phase, .bool s.fresh, .slice ua s.vals.length uc, .slice ub s.mail.length ud] 34)) ∧ BX 34 (w2.alloc (.cells #[.int .i64 s.step, .int .i64 s.phase, .bool s.fresh, .slice ua s.vals.length uc, .slice ub s.mail.length ud] 34)) w2.heap.size #[.int .i64 s.step, .int .i64 s.phase, .bool s.fresh, .slice ua s.vals.length uc, .slice ub s.mail.length ud] ∧ ((w2.alloc (.cells #[.int .i64 s.step, .int .i64 s.phase, .bool s.fresh, .slice ua s.vals.length uc, .slice ub s.mail.length ud] 34)).ownsRow W0.heap.size 73 2 (.slice ua s.vals.length uc) s.vals.length (s.vals.flatMap encM) ∧ (w2.alloc (.cells #[.int .i64 s.step, .int .i64 s.phase, .bool s.fresh, .slice ua s.vals.length uc, .slice ub s.mail.length ud] 34)).ownsRow W0.heap.size 75 2 (.slice ub s.mail.length ud) s.mail.length (s.mail.flatMap encM))) := by
          have h := A1.out.trans (hb2.mono hs1)
          exact ⟨h.alloc h.size _, BX.new _ _ _, own_below (own_lower hu1 hs1) (below_alloc _ _) (Nat.le_refl _), own_below (own_lower hu2 hs1) (below_alloc _ _) (Nat.le_refl _)⟩
        clear hu1 hu2 hb2 hs1 q0 A1
        go_upto_region 4 with fail
        generalize w2.alloc (.cells #[.int .i64 s.step, .int .i64 s.phase, .bool s.fresh, .slice ua s.vals.length uc, .slice ub s.mail.length ud] 34) = w3 at *
        generalize w2.heap.size = b3 at *
        have hl3 := N2.out.2.1.lt
        have hs3 := N2.out.1.size
        obtain ⟨q0, _⟩ := (HK.out _ N2.out.1).1.all1
        go_wp2_with fail
        refine (C1.out _ (HK.out _ N2.out.1).2.2.2).mono ?_
        rintro e w4 ⟨u1, u2, rfl, hu1, hu2, hb4⟩
        obtain ⟨ya, yc, rfl⟩ := (RowK.own encM_len hu1 : MlR w4 u1 r.vals).shape
        obtain ⟨yb, yd, rfl⟩ := (RowK.own encM_len hu2 : MlR w4 u2 r.mail).shape
        have N4 : Hid (Below W0.heap.size W0 (w4.alloc (.cells #[.int .i64 r.step, .int .i64 r.phase, .bool r.fresh, .slice ya r.vals.length yc, .slice yb r.mail.length yd] 34)) ∧ (BX 34 (w4.alloc (.cells #[.int .i64 r.step, .int .i64 r.phase, .bool r.fresh, .slice ya r.vals.length yc, .slice yb r.mail.length yd] 34)) w4.heap.size #[.int .i64 r.step, .int .i64 r.phase, .bool r.fresh, .slice ya r.vals.length yc, .slice yb r.mail.length yd] ∧ BX 34 (w4.alloc (.cells #[.int .i64 r.step, .int .i64 r.phase, .bool r.fresh, .slice ya r.vals.length yc, .slice yb r.mail.length yd] 34)) b3 #[.int .i64 s.step, .int .i64 s.phase, .bool s.fresh, .slice ua s.vals.length uc, .slice ub s.mail.length ud]) ∧ ((w4.alloc (.cells #[.int .i64 r.step, .int .i64 r.phase, .bool r.fresh, .slice ya r.vals.length yc, .slice yb r.mail.length yd] 34)).ownsRow W0.heap.size 73 2 (.slice ya r.vals.length yc) r.vals.length (r.vals.flatMap encM) ∧ (w4.alloc (.cells #[.int .i64 r.step, .int .i64 r.phase, .bool r.fresh, .slice ya r.vals.length yc, .slice yb r.mail.length yd] 34)).ownsRow W0.heap.size 75 2 (.slice yb r.mail.length yd) r.mail.length (r.mail.flatMap encM)) ∧ ((w4.alloc (.cells #[.int .i64 r.step, .int .i64 r.phase, .bool r.fresh, .slice ya r.vals.length yc, .slice yb r.mail.length yd] 34)).ownsRow W0.heap.size 73 2 (.slice ua s.vals.length uc) s.vals.length (s.vals.flatMap encM) ∧ (w4.alloc (.cells #[.int .i64 r.step, .int .i64 r.phase, .bool r.fresh, .slice ya r.vals.length yc, .slice yb r.mail.length yd] 34)).ownsRow W0.heap.size 75 2 (.slice ub s.mail.length ud) s.mail.length (s.mail.flatMap encM))) := by
          have h := N2.out.1.trans (hb4.mono hs3)
          have bA := hb4.alloc hb4.size (.cells #[.int .i64 r.step, .int .i64 r.phase, .bool r.fresh, .slice ya r.vals.length yc, .slice yb r.mail.length yd] 34)
          exact ⟨h.alloc h.size _, ⟨BX.new _ _ _, N2.out.2.1.below bA hl3⟩, ⟨own_below (own_lower hu1 hs3) (below_alloc _ _) (Nat.le_refl _), own_below (own_lower hu2 hs3) (below_alloc _ _) (Nat.le_refl _)⟩, own_below N2.out.2.2.1 bA (Nat.le_refl _), own_below N2.out.2.2.2 bA (Nat.le_refl _)⟩
        clear hu1 hu2 hb4 q0 N2
        go_upto_region 5 with fail
        generalize w4.alloc (.cells #[.int .i64 r.step, .int .i64 r.phase, .bool r.fresh, .slice ya r.vals.length yc, .slice yb r.mail.length yd] 34) = w5 at *
        generalize w4.heap.size = b5 at *
        obtain ⟨a5, ⟨y5, x5⟩, p5, o5⟩ := N4.out
        have A5 : Hid (Below W0.heap.size W0 w5) := a5
        have OA : Hid (w5.ownsRow W0.heap.size 73 2 (.slice ua s.vals.length uc) s.vals.length (s.vals.flatMap encM) ∧ w5.ownsRow W0.heap.size 75 2 (.slice ub s.mail.length ud) s.mail.length (s.mail.flatMap encM)) := o5
        have OB : Hid (w5.ownsRow W0.heap.size 73 2 (.slice ya r.vals.length yc) r.vals.length (r.vals.flatMap encM) ∧ w5.ownsRow W0.heap.size 75 2 (.slice yb r.mail.length yd) r.mail.length (r.mail.flatMap encM)) := p5
        obtain ⟨e0, e1, e2, e3, e4⟩ := x5.all5
        obtain ⟨g0, g1, g2, g3, g4⟩ := y5.all5
        clear a5 x5 y5 o5 p5 N4 CM C0 C1
        obtain ⟨m0, m1, m2, m3, m4⟩ := (HK.out _ A5.out).2.1.all5
        obtain ⟨f0, f1, f2, f3, f4⟩ := (HK.out _ A5.out).2.1.all5f
        have HX : Hid (P (.returned (.tuple #[.agg #[.int .i64 0, .int .i64 0, .bool false, .slice none 0 0, .slice none 0 0], .int .i64 7])) (putS w5 (w.heap.size + 1) (.int .i64 0) (.int .i64 0) (.bool false) (.slice none 0 0) (.slice none 0 0))) := HE.out _ (below_putS (HK.out _ A5.out).2.2.1 (Nat.le_succ _) _ _ _ _ _)
        have RX : Hid (BX 34 (putS w5 (w.heap.size + 1) (.int .i64 0) (.int .i64 0) (.bool false) (.slice none 0 0) (.slice none 0 0)) (w.heap.size + 1) #[.int .i64 0, .int .i64 0, .bool false, .slice none 0 0, .slice none 0 0]) := BX.putS (HK.out _ A5.out).2.1
        go_wp2_with fail
        obtain ⟨r0, r1, r2, r3, r4⟩ := RX.out.all5
        unfold putS at r0 r1 r2 r3 r4
        exact bodyPost_ret (v := .tuple #[.agg #[.int .i64 0, .int .i64 0, .bool false, .slice none 0 0, .slice none 0 0], .int .i64 7]) (by simp [results, Tryd.results14, go_sem, r0, r1, r2, r3, r4]) rfl HX.out
    · have e3 : (t2 == 0) = false := by simp [h3]
      have HE : Hid (∀ w', Below w.heap.size w w' → P (.returned (.tuple #[.agg #[.int .i64 0, .int .i64 0, .bool false, .slice none 0 0, .slice none 0 0], .int .i64 7])) w') := HN.out 7 (KZ.out (fun h => h1 h.1) (fun h => h3 h.1))
      clear HN HY KA KB KZ h1 h3
      go_enter Tryd.func14, Tryd.ntmps14
      go_upto_region 1 with fail
      rw [← hW0]
      clear hW0
      go_wp2_with fail
      refine (CM.out _ (HK.out _ A0.out).2.2.2).mono ?_
      rintro e w1 ⟨rfl, hb1⟩
      have A1 : Hid (Below W0.heap.size W0 w1) := hb1
      clear hb1 q0
      obtain ⟨q0, _⟩ := (HK.out _ A1.out).1.all1
      go_wp2_with fail
      refine (C0.out _ (HK.out _ A1.out).2.2.2).mono ?_
      rintro e w2 ⟨u1, u2, rfl, hu1, hu2, hb2⟩
      obtain ⟨ua, uc, rfl⟩ := (RowK.own encM_len hu1 : MlR w2 u1 s.vals).shape
      obtain ⟨ub, ud, rfl⟩ := (RowK.own encM_len hu2 : MlR w2 u2 s.mail).shape
      have hs1 := A1.out.size
      have N2 : Hid (Below W0.heap.size W0 (w2.alloc (.cells #[.int .i64 s.step, .int .i64 s.phase, .bool s.fresh, .slice ua s.vals.length uc, .slice ub s.mail.length ud] 34)) ∧ BX 34 (w2.alloc (.cells #[.int .i64 s.step, .int .i64 s.phase, .bool s.fresh, .slice ua s.vals.length uc, .slice ub s.mail.length ud] 34)) w2.heap.size #[.int .i64 s.step, .int .i64 s.phase, .bool s.fresh, .slice ua s.vals.length uc, .slice ub s.mail.length ud] ∧ ((w2.alloc (.cells #[.int .i64 s.step, .int .i64 s.phase, .bool s.fresh, .slice ua s.vals.length uc, .slice ub s.mail.length ud] 34)).ownsRow W0.heap.size 73 2 (.slice ua s.vals.length uc) s.vals.length (s.vals.flatMap encM) ∧ (w2.alloc (.cells #[.int .i64 s.step, .int .i64 s.phase, .bool s.fresh, .slice ua s.vals.length uc, .slice ub s.mail.length ud] 34)).ownsRow W0.heap.size 75 2 (.slice ub s.mail.length ud) s.mail.length (s.mail.flatMap encM))) := by
        have h := A1.out.trans (hb2.mono hs1)
        exact ⟨h.alloc h.size _, BX.new _ _ _, own_below (own_lower hu1 hs1) (below_alloc _ _) (Nat.le_refl _), own_below (own_lower hu2 hs1) (below_alloc _ _) (Nat.le_refl _)⟩
      clear hu1 hu2 hb2 hs1 q0 A1
      go_upto_region 4 with fail
      generalize w2.alloc (.cells #[.int .i64 s.step, .int .i64 s.phase, .bool s.fresh, .slice ua s.vals.length uc, .slice ub s.mail.length ud] 34) = w3 at *
      generalize w2.heap.size = b3 at *
      have hl3 := N2.out.2.1.lt
      have hs3 := N2.out.1.size
      obtain ⟨q0, _⟩ := (HK.out _ N2.out.1).1.all1
      go_wp2_with fail
      refine (C1.out _ (HK.out _ N2.out.1).2.2.2).mono ?_
      rintro e w4 ⟨u1, u2, rfl, hu1, hu2, hb4⟩
      obtain ⟨ya, yc, rfl⟩ := (RowK.own encM_len hu1 : MlR w4 u1 r.vals).shape
      obtain ⟨yb, yd, rfl⟩ := (RowK.own encM_len hu2 : MlR w4 u2 r.mail).shape
      have N4 : Hid (Below W0.heap.size W0 (w4.alloc (.cells #[.int .i64 r.step, .int .i64 r.phase, .bool r.fresh, .slice ya r.vals.length yc, .slice yb r.mail.length yd] 34)) ∧ (BX 34 (w4.alloc (.cells #[.int .i64 r.step, .int .i64 r.phase, .bool r.fresh, .slice ya r.vals.length yc, .slice yb r.mail.length yd] 34)) w4.heap.size #[.int .i64 r.step, .int .i64 r.phase, .bool r.fresh, .slice ya r.vals.length yc, .slice yb r.mail.length yd] ∧ BX 34 (w4.alloc (.cells #[.int .i64 r.step, .int .i64 r.phase, .bool r.fresh, .slice ya r.vals.length yc, .slice yb r.mail.length yd] 34)) b3 #[.int .i64 s.step, .int .i64 s.phase, .bool s.fresh, .slice ua s.vals.length uc, .slice ub s.mail.length ud]) ∧ ((w4.alloc (.cells #[.int .i64 r.step, .int .i64 r.phase, .bool r.fresh, .slice ya r.vals.length yc, .slice yb r.mail.length yd] 34)).ownsRow W0.heap.size 73 2 (.slice ya r.vals.length yc) r.vals.length (r.vals.flatMap encM) ∧ (w4.alloc (.cells #[.int .i64 r.step, .int .i64 r.phase, .bool r.fresh, .slice ya r.vals.length yc, .slice yb r.mail.length yd] 34)).ownsRow W0.heap.size 75 2 (.slice yb r.mail.length yd) r.mail.length (r.mail.flatMap encM)) ∧ ((w4.alloc (.cells #[.int .i64 r.step, .int .i64 r.phase, .bool r.fresh, .slice ya r.vals.length yc, .slice yb r.mail.length yd] 34)).ownsRow W0.heap.size 73 2 (.slice ua s.vals.length uc) s.vals.length (s.vals.flatMap encM) ∧ (w4.alloc (.cells #[.int .i64 r.step, .int .i64 r.phase, .bool r.fresh, .slice ya r.vals.length yc, .slice yb r.mail.length yd] 34)).ownsRow W0.heap.size 75 2 (.slice ub s.mail.length ud) s.mail.length (s.mail.flatMap encM))) := by
        have h := N2.out.1.trans (hb4.mono hs3)
        have bA := hb4.alloc hb4.size (.cells #[.int .i64 r.step, .int .i64 r.phase, .bool r.fresh, .slice ya r.vals.length yc, .slice yb r.mail.length yd] 34)
        exact ⟨h.alloc h.size _, ⟨BX.new _ _ _, N2.out.2.1.below bA hl3⟩, ⟨own_below (own_lower hu1 hs3) (below_alloc _ _) (Nat.le_refl _), own_below (own_lower hu2 hs3) (below_alloc _ _) (Nat.le_refl _)⟩, own_below N2.out.2.2.1 bA (Nat.le_refl _), own_below N2.out.2.2.2 bA (Nat.le_refl _)⟩
      clear hu1 hu2 hb4 q0 N2
      go_upto_region 5 with fail
      generalize w4.alloc (.cells #[.int .i64 r.step, .int .i64 r.phase, .bool r.fresh, .slice ya r.vals.length yc, .slice yb r.mail.length yd] 34) = w5 at *
      generalize w4.heap.size = b5 at *
      obtain ⟨a5, ⟨y5, x5⟩, p5, o5⟩ := N4.out
      have A5 : Hid (Below W0.heap.size W0 w5) := a5
      have OA : Hid (w5.ownsRow W0.heap.size 73 2 (.slice ua s.vals.length uc) s.vals.length (s.vals.flatMap encM) ∧ w5.ownsRow W0.heap.size 75 2 (.slice ub s.mail.length ud) s.mail.length (s.mail.flatMap encM)) := o5
      have OB : Hid (w5.ownsRow W0.heap.size 73 2 (.slice ya r.vals.length yc) r.vals.length (r.vals.flatMap encM) ∧ w5.ownsRow W0.heap.size 75 2 (.slice yb r.mail.length yd) r.mail.length (r.mail.flatMap encM)) := p5
      obtain ⟨e0, e1, e2, e3, e4⟩ := x5.all5
      obtain ⟨g0, g1, g2, g3, g4⟩ := y5.all5
      clear a5 x5 y5 o5 p5 N4 CM C0 C1
      obtain ⟨m0, m1, m2, m3, m4⟩ := (HK.out _ A5.out).2.1.all5
      obtain ⟨f0, f1, f2, f3, f4⟩ := (HK.out _ A5.out).2.1.all5f
      have HX : Hid (P (.returned (.tuple #[.agg #[.int .i64 0, .int .i64 0, .bool false, .slice none 0 0, .slice none 0 0], .int .i64 7])) (putS w5 (w.heap.size + 1) (.int .i64 0) (.int .i64 0) (.bool false) (.slice none 0 0) (.slice none 0 0))) := HE.out _ (below_putS (HK.out _ A5.out).2.2.1 (Nat.le_succ _) _ _ _ _ _)
      have RX : Hid (BX 34 (putS w5 (w.heap.size + 1) (.int .i64 0) (.int .i64 0) (.bool false) (.slice none 0 0) (.slice none 0 0)) (w.heap.size + 1) #[.int .i64 0, .int .i64 0, .bool false, .slice none 0 0, .slice none 0 0]) := BX.putS (HK.out _ A5.out).2.1
      go_wp2_with fail
      obtain ⟨r0, r1, r2, r3, r4⟩ := RX.out.all5
      unfold putS at r0 r1 r2 r3 r4
      exact bodyPost_ret (v := .tuple #[.agg #[.int .i64 0, .int .i64 0, .bool false, .slice none 0 0, .slice none 0 0], .int .i64 7]) (by simp [results, Tryd.results14, go_sem, r0, r1, r2, r3, r4]) rfl HX.out
end Go.Proofs.YthakibcfmbkpkaaDoor

namespace Go.Proofs.YthakibcfmbkpkaaDoor
set_option maxRecDepth 100000
open Go.ChangeShapes Go.WideShapes Go.ChangeAt Go.RowKit

theorem sameBytes_yes (va vb : Value) (xs : List Int) (w : World) (ha : Reads .u8 w va xs) (hb : Reads .u8 w vb xs) (hx : ∀ x ∈ xs, 0 ≤ x ∧ x ≤ 255) :
    Calls Tryd.prog 23 #[va, vb] w fun e w' => e = .returned (.bool true) ∧ w' = w :=
  (sameBytes_any va vb xs xs w ha hb hx hx).mono fun e w' h => ⟨by rw [h.1]; simp, h.2⟩

set_option maxHeartbeats 1000000 in
set_option maxRecDepth 100000 in
theorem sameDisk_yes (va vb : Value) (fs : List FileL) (w : World) (ha : DiskR w va fs) (hb : DiskR w vb fs) (hg : Good fs) :
    Calls Tryd.prog 9 #[.agg #[va], .agg #[vb]] w fun e w' => e = .returned (.bool true) ∧ Below w.heap.size w w' := by
  have HG : Hid (Good fs) := hg
  obtain ⟨a, ca, rfl, hca, hma, _, hela⟩ := ha
  obtain ⟨b, cb, rfl, hcb, hmb, _, helb⟩ := hb
  have HA : Hid (0 < fs.length → ∃ x off, a = some ⟨x, off, none⟩ ∧ x < w.heap.size ∧ ∃ vs : Nat → Value, ∀ i, i < fs.length → FileC w x (off + i * 3) (vs i) (fs.getD i noF)) := hela
  have HB : Hid (0 < fs.length → ∃ x off, b = some ⟨x, off, none⟩ ∧ x < w.heap.size ∧ ∃ vs : Nat → Value, ∀ i, i < fs.length → FileC w x (off + i * 3) (vs i) (fs.getD i noF)) := helb
  clear hela helb hg
  unfold maxLen at hma hmb
  have hll : ((fs.length : Int) != (fs.length : Int)) = false := by simp
  go_enter Tryd.func9, Tryd.ntmps9
  go_wp2_with fail
  go_loopw [5] (fun i wr => ∃ k : Nat, k ≤ fs.length ∧ i = .int .i64 k ∧ Below (w.heap.size + 2) ((w.alloc (.cells #[.slice a fs.length ca] 24)).alloc (.cells #[.slice b fs.length cb] 24)) wr) (fun i _ => fs.length - (intOf i).toNat)
  case atStart => exact ⟨0, by omega, rfl, Below.refl _ _⟩
  case round =>
    obtain ⟨k, hk, rfl, hbel⟩ := hrel
    have x0 := two_cell0 hbel
    have x1 := two_cell1 hbel
    have HBL : Hid (Below (w.heap.size + 2) ((w.alloc (.cells #[.slice a fs.length ca] 24)).alloc (.cells #[.slice b fs.length cb] 24)) wr) := hbel
    have hsz : w.heap.size + 2 ≤ wr.heap.size := by have := hbel.size; simp at this; omega
    clear hbel
    by_cases hlt : k < fs.length
    · obtain ⟨xa, oa, rfl, la, va, hva⟩ := HA.out (by omega)
      obtain ⟨xb, ob, rfl, lb, vb, hvb⟩ := HB.out (by omega)
      have BW : Below w.heap.size w wr := below_two HBL.out
      obtain ⟨a1, a2, a3, a4⟩ := (hva k hlt).below BW (Nat.le_refl _)
      obtain ⟨b1, b2, b3, b4⟩ := (hvb k hlt).below BW (Nat.le_refl _)
      have HBY : Hid (∀ x ∈ (fs.getD k noF).data, 0 ≤ x ∧ x ≤ 255) := (HG.out k hlt).1
      have RA : Hid (Reads .u8 wr (va k) (fs.getD k noF).data) := a4
      have RB : Hid (Reads .u8 wr (vb k) (fs.getD k noF).data) := b4
      have hnm : ((fs.getD k noF).name.toList == (fs.getD k noF).name.toList) = true := by simp
      have hsy : ((fs.getD k noF).synced != (fs.getD k noF).synced) = false := by simp
      clear hva hvb HA HB a4 b4
      generalize fs.getD k noF = f at *
      generalize va k = u at *
      generalize vb k = v at *
      obtain ⟨ua, un, uc, rfl⟩ : ∃ a n c, u = .slice a n c := by obtain ⟨a, c, h, _⟩ := RA.out; exact ⟨_, _, _, h⟩
      obtain ⟨wa, wn, wc, rfl⟩ : ∃ a n c, v = .slice a n c := by obtain ⟨a, c, h, _⟩ := RB.out; exact ⟨_, _, _, h⟩
      have xx1 : ∀ X, (wr.alloc X).cell? ⟨w.heap.size + 1, 0, none⟩ = some (.slice (some ⟨xb, ob, none⟩) fs.length cb) := fun X => ((below_alloc wr X).cell (p := ⟨w.heap.size + 1, 0, none⟩) (show w.heap.size + 1 < wr.heap.size by omega)).trans x1
      have lx : xb < wr.heap.size := by omega
      have y1 : ∀ X, (wr.alloc X).cell? ⟨xb, ob + k * 3, none⟩ = some (.string f.name) := fun X => ((below_alloc wr X).cell (p := ⟨xb, ob + k * 3, none⟩) lx).trans b1
      have y2 : ∀ X, (wr.alloc X).cell? ⟨xb, ob + k * 3 + 1, none⟩ = some (.slice wa wn wc) := fun X => ((below_alloc wr X).cell (p := ⟨xb, ob + k * 3 + 1, none⟩) lx).trans b2
      have y3 : ∀ X, (wr.alloc X).cell? ⟨xb, ob + k * 3 + 2, none⟩ = some (.int .i64 f.synced) := fun X => ((below_alloc wr X).cell (p := ⟨xb, ob + k * 3 + 2, none⟩) lx).trans b3
      clear b1 b2 b3 BW
      go_wp2_with fail
      refine (sameBytes_yes _ _ f.data _ ?_ ?_ HBY.out).mono ?_
      · exact (RA.out.below (below_alloc _ _) (Nat.le_refl _)).below (below_alloc _ _) (Nat.le_refl _)
      · exact (RB.out.below (below_alloc _ _) (Nat.le_refl _)).below (below_alloc _ _) (Nat.le_refl _)
      rintro e w' ⟨rfl, rfl⟩
      go_wp2_with fail
      go_roundw
      case rel => exact ⟨k + 1, by omega, by go_num, (HBL.out.alloc (by omega) _).alloc (by simp; omega) _⟩
      case measure => simp [intOf]; omega
    · go_wp2_with fail
      go_ret
      exact ⟨ret_bool rfl, below_two HBL.out⟩

set_option maxHeartbeats 400000 in
theorem disks_any (v : Value) (fs : List FileL) (w : World) (h : DiskR w v fs) (hg : Good fs) (hl : fs.length * 48 ≤ 140737488351232) :
    Calls Tryd.prog 6 #[.agg #[v]] w fun e w' => ∃ v', e = .returned (.agg #[v']) ∧ DiskR w' v' fs ∧ Below w.heap.size w w' := by
  have HD : Hid (DiskR w v fs) := h
  obtain ⟨a, cap, rfl, _, _, _, _⟩ := h
  go_enter Tryd.func6, Tryd.ntmps6
  go_wp2_with fail
  refine (diskCopy_any _ fs _ ?_ hg hl).mono ?_
  · exact (HD.out.below (below_alloc _ _) (Nat.le_refl _)).below (below_alloc _ _) (Nat.le_refl _)
  rintro e w1 ⟨v1, vs, rfl, ho, hb⟩
  have hb2 : Below (w.heap.size + 2) ((w.alloc (.cells #[.slice a fs.length cap] 24)).alloc (.cells #[.slice none 0 0] 24)) w1 := by simpa using hb
  have r1 := two_cell1 hb2
  have r2 : w1.frozen? ⟨w.heap.size + 1, 0, none⟩ = false := (hb2.frozen (p := ⟨w.heap.size + 1, 0, none⟩) (Nat.lt_succ_self _)).trans (frozen_second _ _ _ _)
  have O1 : Hid (OwnD w1 (w.heap.size + 2) v1 fs vs) := by simpa [Hid] using ho
  have B1 : Hid (Below w.heap.size w w1) := below_two hb2
  clear hb hb2 ho
  obtain ⟨ua, un, uc, rfl⟩ : ∃ a n c, v1 = .slice a n c := by rcases O1.out.shape with ⟨h, _⟩ | ⟨g, c, h, _⟩ <;> exact ⟨_, _, _, h⟩
  go_wp2_with fail
  refine bodyPost_ret (v := .agg #[.slice ua un uc]) (by simp [results, Tryd.results6, go_sem, r1]) rfl ⟨_, rfl, (O1.out.setBelow (show w.heap.size + 1 < w.heap.size + 2 by omega) _).reads, ?_⟩
  exact B1.out.setCell (show w.heap.size ≤ w.heap.size + 1 by omega) _
end Go.Proofs.YthakibcfmbkpkaaDoor

namespace Go.Proofs.YthakibcfmbkpkaaDoor
set_option maxRecDepth 100000
open Go.ChangeShapes Go.WideShapes Go.ChangeAt Go.RowKit

set_option maxHeartbeats 1000000 in
set_option maxRecDepth 100000 in
theorem sameVals_yes (va vb : Value) (vs : List Ml) (w : World) (ha : MlR w va vs) (hb : MlR w vb vs) :
    Calls Tryd.prog 28 #[va, vb] w fun e w' => e = .returned (.bool true) ∧ Below w.heap.size w w' := by
  have HA : Hid (MlR w va vs) := ha
  have HB : Hid (MlR w vb vs) := hb
  obtain ⟨a, ca, rfl, hca, hma, _, _⟩ := ha
  obtain ⟨b, cb, rfl, hcb, hmb, _, _⟩ := hb
  unfold maxLen at hma hmb
  have hll : ((vs.length : Int) != (vs.length : Int)) = false := by simp
  go_enter Tryd.func28, Tryd.ntmps28
  go_wp2_with fail
  go_loopw [5] (fun i wr => ∃ k : Nat, k ≤ vs.length ∧ i = .int .i64 k ∧ Below w.heap.size w wr) (fun i _ => vs.length - (intOf i).toNat)
  case atStart => exact ⟨0, by omega, rfl, Below.refl _ _⟩
  case round =>
    obtain ⟨k, hk, rfl, hbel⟩ := hrel
    have HBL : Hid (Below w.heap.size w wr) := hbel
    clear hbel
    by_cases hlt : k < vs.length
    · obtain ⟨xa, oa, cap', e1, _, _, la, hva⟩ := MlR.at (HA.out.below HBL.out (Nat.le_refl _)) (by omega)
      injection e1 with e1 _ e3
      subst e1 e3
      obtain ⟨xb, ob, cap', e1, _, _, lb, hvb⟩ := MlR.at (HB.out.below HBL.out (Nat.le_refl _)) (by omega)
      injection e1 with e1 _ e3
      subst e1 e3
      obtain ⟨x, hx⟩ := getX hlt
      have p0 : (0 : Int) ≤ (k : Int) := by omega
      have p1 : (k : Int) < (vs.length : Int) := by omega
      obtain ⟨c1, c2⟩ := hva k x hx
      obtain ⟨d1, d2⟩ := hvb k x hx
      obtain ⟨x1, x2⟩ := x
      simp only at c1 c2 d1 d2
      clear hva hvb hx
      go_wp2_with fail
      go_quiet (fail)
      go_wp2_with fail
      go_roundw
      case rel => exact ⟨k + 1, by omega, by go_num, below_drewN HBL.out _⟩
      case measure => simp [intOf]; omega
    · go_wp2_with fail
      go_ret
      exact ⟨rfl, HBL.out⟩

end Go.Proofs.YthakibcfmbkpkaaDoor

namespace Go.Proofs.YthakibcfmbkpkaaDoor
set_option maxRecDepth 100000
open Go.ChangeShapes Go.WideShapes Go.ChangeAt Go.RowKit

set_option maxHeartbeats 1000000 in
set_option maxRecDepth 100000 in
theorem sameMails_yes (va vb : Value) (es : List Ml) (w : World) (ha : MlR w va es) (hb : MlR w vb es) :
    Calls Tryd.prog 29 #[va, vb] w fun e w' => e = .returned (.bool true) ∧ Below w.heap.size w w' := by
  have HA : Hid (MlR w va es) := ha
  have HB : Hid (MlR w vb es) := hb
  obtain ⟨a, ca, rfl, hca, hma, _, _⟩ := ha
  obtain ⟨b, cb, rfl, hcb, hmb, _, _⟩ := hb
  unfold maxLen at hma hmb
  have hll : ((es.length : Int) != (es.length : Int)) = false := by simp
  go_enter Tryd.func29, Tryd.ntmps29
  go_wp2_with fail
  go_loopw [5] (fun i wr => ∃ k : Nat, k ≤ es.length ∧ i = .int .i64 k ∧ Below w.heap.size w wr) (fun i _ => es.length - (intOf i).toNat)
  case atStart => exact ⟨0, by omega, rfl, Below.refl _ _⟩
  case round =>
    obtain ⟨k, hk, rfl, hbel⟩ := hrel
    have HBL : Hid (Below w.heap.size w wr) := hbel
    clear hbel
    by_cases hlt : k < es.length
    · obtain ⟨xa, oa, cap', e1, _, _, la, hva⟩ := MlR.at (HA.out.below HBL.out (Nat.le_refl _)) (by omega)
      injection e1 with e1 _ e3
      subst e1 e3
      obtain ⟨xb, ob, cap', e1, _, _, lb, hvb⟩ := MlR.at (HB.out.below HBL.out (Nat.le_refl _)) (by omega)
      injection e1 with e1 _ e3
      subst e1 e3
      obtain ⟨x, hx⟩ := getX hlt
      have p0 : (0 : Int) ≤ (k : Int) := by omega
      have p1 : (k : Int) < (es.length : Int) := by omega
      obtain ⟨c1, c2⟩ := hva k x hx
      obtain ⟨d1, d2⟩ := hvb k x hx
      obtain ⟨xt, xc⟩ := x
      simp only at c1 c2 d1 d2
      clear hva hvb hx
      go_wp2_with fail
      go_quiet (fail)
      go_wp2_with fail
      go_roundw
      case rel => exact ⟨k + 1, by omega, by go_num, below_drewN HBL.out _⟩
      case measure => simp [intOf]; omega
    · go_wp2_with fail
      go_ret
      exact ⟨rfl, HBL.out⟩
end Go.Proofs.YthakibcfmbkpkaaDoor

namespace Go.Proofs.YthakibcfmbkpkaaDoor
set_option maxRecDepth 100000
open Go.ChangeShapes Go.WideShapes Go.ChangeAt Go.RowKit

set_option maxHeartbeats 2000000 in
set_option maxRecDepth 100000 in
theorem sameSaved_yes (s : SvS) (va vb vma vmb : Value) (w : World) (ha : MlR w va s.vals) (hb : MlR w vb s.vals) (hma : MlR w vma s.mail) (hmb : MlR w vmb s.mail) :
    Calls Tryd.prog 12 #[.agg #[.int .i64 s.step, .int .i64 s.phase, .bool s.fresh, va, vma], .agg #[.int .i64 s.step, .int .i64 s.phase, .bool s.fresh, vb, vmb]] w fun e w' => e = .returned (.bool true) ∧ Below w.heap.size w w' := by
  have HA : Hid (MlR w va s.vals) := ha
  have HB : Hid (MlR w vb s.vals) := hb
  have HMA : Hid (MlR w vma s.mail) := hma
  have HMB : Hid (MlR w vmb s.mail) := hmb
  obtain ⟨a, ca, rfl⟩ := ha.shape
  obtain ⟨b, cb, rfl⟩ := hb.shape
  obtain ⟨ma, mca, rfl⟩ := hma.shape
  obtain ⟨mb, mcb, rfl⟩ := hmb.shape
  clear ha hb hma hmb
  obtain ⟨W0, hW0⟩ : ∃ W0, W0 = (w.alloc (.cells #[.int .i64 s.step, .int .i64 s.phase, .bool s.fresh, .slice a s.vals.length ca, .slice ma s.mail.length mca] 34)).alloc (.cells #[.int .i64 s.step, .int .i64 s.phase, .bool s.fresh, .slice b s.vals.length cb, .slice mb s.mail.length mcb] 34) := ⟨_, rfl⟩
  obtain ⟨Q0, T0, B0, s1, s2⟩ := boxes2 w #[.int .i64 s.step, .int .i64 s.phase, .bool s.fresh, .slice a s.vals.length ca, .slice ma s.mail.length mca] #[.int .i64 s.step, .int .i64 s.phase, .bool s.fresh, .slice b s.vals.length cb, .slice mb s.mail.length mcb] 34 34 W0 hW0
  have BH : Hid (Below w.heap.size w W0) := B0
  have HK : Hid (∀ X, Below W0.heap.size W0 X → BX 34 X w.heap.size #[.int .i64 s.step, .int .i64 s.phase, .bool s.fresh, .slice a s.vals.length ca, .slice ma s.mail.length mca] ∧ BX 34 X (w.heap.size + 1) #[.int .i64 s.step, .int .i64 s.phase, .bool s.fresh, .slice b s.vals.length cb, .slice mb s.mail.length mcb] ∧ Below w.heap.size w X) := fun X hX => ⟨Q0.below hX (by omega), T0.below hX (by omega), BH.out.trans (hX.mono (by omega))⟩
  have A0 : Hid (Below W0.heap.size W0 W0) := Below.refl _ _
  obtain ⟨q0, q1, q2, q3, q4⟩ := Q0.all5
  obtain ⟨p0, p1, p2, p3, p4⟩ := T0.all5
  have t0 : (s.step == s.step) = true := by simp
  have t1 : (s.phase == s.phase) = true := by simp
  have t2 : (s.fresh == s.fresh) = true := by simp
  have CV : Hid (∀ X, Below W0.heap.size W0 X → Calls Tryd.prog 28 #[.slice a s.vals.length ca, .slice b s.vals.length cb] X fun e w' => e = .returned (.bool true) ∧ Below X.heap.size X w') := fun X hX => sameVals_yes _ _ s.vals X (HA.out.below (HK.out X hX).2.2 (Nat.le_refl _)) (HB.out.below (HK.out X hX).2.2 (Nat.le_refl _))
  have CM : Hid (∀ X, Below W0.heap.size W0 X → Calls Tryd.prog 29 #[.slice ma s.mail.length mca, .slice mb s.mail.length mcb] X fun e w' => e = .returned (.bool true) ∧ Below X.heap.size X w') := fun X hX => sameMails_yes _ _ s.mail X (HMA.out.below (HK.out X hX).2.2 (Nat.le_refl _)) (HMB.out.below (HK.out X hX).2.2 (Nat.le_refl _))
  clear Q0 T0 B0 HA HB HMA HMB
  go_enter Tryd.func12, Tryd.ntmps12
  go_upto_region 1 with fail
  rw [← hW0]
  clear hW0
  go_wp2_with fail
  refine (CV.out _ A0.out).mono ?_
  rintro e w1 ⟨rfl, hb1⟩
  have A1 : Hid (Below W0.heap.size W0 w1) := hb1
  have hs1 := hb1.size
  obtain ⟨QA, QB, _⟩ := HK.out _ hb1
  clear q0 q1 q2 q3 q4 p0 p1 p2 p3 p4 hb1
  obtain ⟨q0, q1, q2, q3, q4⟩ := QA.all5
  obtain ⟨p0, p1, p2, p3, p4⟩ := QB.all5
  clear QA QB
  go_wp2_with fail
  refine (CM.out _ A1.out).mono ?_
  rintro e w2 ⟨rfl, hb2⟩
  have A2 : Hid (Below w.heap.size w w2) := (HK.out _ (A1.out.trans (hb2.mono hs1))).2.2
  clear q0 q1 q2 q3 q4 p0 p1 p2 p3 p4 hb2
  go_wp2_with fail
  go_ret
  exact ⟨rfl, A2.out⟩
end Go.Proofs.YthakibcfmbkpkaaDoor

namespace Go.Proofs.YthakibcfmbkpkaaDoor
set_option maxRecDepth 100000
open Go.ChangeShapes Go.WideShapes Go.ChangeAt Go.RowKit

section
variable {H : Type} {enc : TypeId × Value → H}
/-- A law's contract, told of the arguments' reach, of the world's shape and of the list. -/
theorem returns_laid {a : Assume} {C : Checked} {os : Os} {f : FuncId} {fn : Func} {s : ChangeSpec} {conds : List PathCond} {apart fresh handsOn again : Bool} {X : World → Array Value → Prop}
    (hX : ∀ (w w' : World) (args : Array Value), w.heap = w'.heap → X w args → X w' args)
    (own : ownKnob C.prog.godebug = none) (started : os.Started) (noInit : C.prog.inits.idxOf? f = none) (hfn : C.prog.funcs[f]? = some fn)
    (witness : ∃ (w : World) (tape : Tape) (i : Input), w.os = os ∧ (w.forCall tape i).Shaped C.prog ∧ i.vars = [] ∧ Input.okWide C.prog (w.forCall tape i) .any w.heap.size f i ∧
      ((s.pre enc C.prog fn conds apart (w.forCall tape i).memory i.args ∧ X (w.forCall tape i).memory i.args) ∧ sizedMet enc C.prog fn (OpenSpec.ofChange s) apart (w.forCall tape i).memory i.args) ∧ a.holds C.prog (lone (Frame.enter C.prog f i.args .normal) [] (w.forCall tape i)))
    (contract : ∀ (W : World) (base : Nat) (args : Array Value) (ds gs : List (DataW H)) (before : List MemPlace),
      (∀ (j : Nat) t v, fn.params[j]? = some t → args[j]? = some v → Value.okWide C.prog W .any base t v) →
      DataW.Whole enc C.prog fn.params.toList s.vars apart W args.toList ds gs before →
      conds.all (PathCond.test C.prog ⟨fn.params.toList, ds, s.plain.varTypes C.prog, gs⟩) = true →
      (DataW.weightsEach C.prog (fn.params.toList ++ s.plain.varTypes C.prog) (ds ++ gs)).all (· ≤ reachBytes) = true → W.ShapedOpen C.prog → X W args →
      a.holds C.prog (lone (Frame.enter C.prog f args .normal) [] W) →
      Calls C.prog f args W fun e W' => ∃ v, e = .returned v ∧ s.post enc C.prog fn apart fresh handsOn again W args v W') :
    ReturnsInHanded a C os f .any (fun w args => (s.pre enc C.prog fn conds apart w args ∧ X w args) ∧ sizedMet enc C.prog fn (OpenSpec.ofChange s) apart w args) (s.post enc C.prog fn apart fresh handsOn again) := by
  refine returnsInHanded_of_calls own started noInit witness ?_
  intro w tape i _ hsh _ hok hpre hholds
  obtain ⟨_, _, _, fn', hfn', _, _, _, _, hval⟩ := hok
  have e : fn' = fn := Option.some.inj (hfn'.symm.trans hfn)
  subst e
  obtain ⟨⟨⟨ds, gs, before, hw, hc⟩, hx⟩, hz⟩ := hpre
  have hw' := DataW.Whole.of_heap (w' := w.forCall tape i) (by rfl) hw
  refine (contract (w.forCall tape i) w.heap.size i.args ds gs before hval hw' hc (hz.weights hw) hsh (hX _ _ _ (by rfl) hx) hholds).mono fun e W' ⟨v, he, hp⟩ => ?_
  subst he
  exact ChangeSpec.post_blind hp
end
end Go.Proofs.YthakibcfmbkpkaaDoor

namespace Go.Proofs.YthakibcfmbkpkaaDoor
set_option maxRecDepth 100000
open Go.ChangeShapes Go.WideShapes Go.ChangeAt Go.RowKit

/-- Nothing is asked of the first world. -/
def NoF (_ : World) : Prop := True
theorem no_facts {W : World} {l : List (String × DataW Unit)} (_ : laidMetH Tryd.prog l W) (_ : W.ShapedOpen Tryd.prog) : NoF W := trivial
theorem ckptSeals_met (os : Os) (args : Array Value) : laidMetH Tryd.prog Rows.ckptSealsRow.laid ((World.doorLaid Tryd.prog 400 os).forCall (fun _ _ => 0) ⟨#[], args, []⟩).memory :=
  laidMetH_of_parts3 (fuel := 8) (laidMet_of_run' 8 (by kernel_rfl) (by kernel_rfl)) (by kernel_rfl) (by kernel_rfl)
theorem ckptLoads_met (os : Os) (args : Array Value) : laidMetH Tryd.prog Rows.ckptLoadsRow.laid ((World.doorLaid Tryd.prog 400 os).forCall (fun _ _ => 0) ⟨#[], args, []⟩).memory :=
  laidMetH_of_parts3 (fuel := 8) (laidMet_of_run' 8 (by kernel_rfl) (by kernel_rfl)) (by kernel_rfl) (by kernel_rfl)
theorem ckptNewests_met (os : Os) (args : Array Value) : laidMetH Tryd.prog Rows.ckptNewestsRow.laid ((World.doorLaid Tryd.prog 400 os).forCall (fun _ _ => 0) ⟨#[], args, []⟩).memory :=
  laidMetH_of_parts3 (fuel := 8) (laidMet_of_run' 8 (by kernel_rfl) (by kernel_rfl)) (by kernel_rfl) (by kernel_rfl)
end Go.Proofs.YthakibcfmbkpkaaDoor

namespace Go.Proofs.YthakibcfmbkpkaaDoor
set_option maxRecDepth 100000
open Go.ChangeShapes Go.WideShapes Go.ChangeAt Go.RowKit

/-- Files whose row is the call's own, and whose data reads; the first k of them have data of their own, apart from one another. -/
structure PartD (w : World) (base : Nat) (v : Value) (fs : List FileL) (vs : List Value) (k : Nat) : Prop where
  len : vs.length = fs.length
  row : w.ownsRow base 46 3 v fs.length (rows fs vs)
  read : ∀ i, i < fs.length → Reads .u8 w (vs.getD i undef) (fs.getD i noF).data
  data : ∀ i, i < k → w.ownsRow base 5 1 (vs.getD i undef) (fs.getD i noF).data.length ((fs.getD i noF).data.map (Value.int .u8))
  apart : ∀ i j, i < j → j < k → (vs.getD j undef).ownBlock = none ∨ (vs.getD j undef).ownBlock ≠ (vs.getD i undef).ownBlock

theorem PartD.own {w : World} {base : Nat} {v : Value} {fs : List FileL} {vs : List Value} (h : PartD w base v fs vs fs.length) : OwnD w base v fs vs := ⟨h.len, h.row, h.data, h.apart⟩
theorem PartD.below {w w' : World} {base B k : Nat} {v : Value} {fs : List FileL} {vs : List Value} (h : PartD w base v fs vs k) (hb : Below B w w') (hB : w.heap.size ≤ B) : PartD w' base v fs vs k :=
  ⟨h.len, own_below h.row hb hB, fun i hi => (h.read i hi).below hb hB, fun i hi => own_below (h.data i hi) hb hB, h.apart⟩

theorem rows_set : ∀ {fs : List FileL} {vs : List Value} (k : Nat) (x : Value), vs.length = fs.length → k < fs.length → rows fs (vs.set k x) = (rows fs vs).set (k * 3 + 1) x
  | [], _, k, x, _, h => by simp at h
  | f :: r, [], k, x, h, _ => by simp at h
  | f :: r, v :: vs, 0, x, _, _ => by simp [rows]
  | f :: r, v :: vs, k + 1, x, h, hk => by
    have := rows_set (fs := r) (vs := vs) k x (by simpa using h) (by simpa using hk)
    have e1 : (k + 1) * 3 + 1 = k * 3 + 1 + 3 := by omega
    rw [e1]
    simp only [List.set_cons_succ, rows, this]
/-- Bytes that read, behind a store into a cell that held no byte. -/
theorem Reads.set {w : World} {v : Value} {xs : List Int} {p : Addr} {u x : Value} (h : Reads .u8 w v xs) (hp : w.cell? p = some u) (hu : ∀ n, u ≠ .int .u8 n) : Reads .u8 (w.setCell p x) v xs := by
  obtain ⟨a, cap, rfl, hc, hm, ha, hcell⟩ := h
  refine ⟨a, cap, rfl, hc, hm, ha, fun y hy i hi => ?_⟩
  have h1 := hcell y hy i hi
  rw [World.cell?_setCell_other _ _ _ _ (fun e => by rw [← e] at h1; rw [hp] at h1; injection h1 with h1; exact hu _ h1), h1]
theorem PartD.store {w : World} {base k g n cap : Nat} {fs : List FileL} {vs : List Value} {x : Value} (h : PartD w base (.slice (some ⟨g, 0, none⟩) n cap) fs vs k) (hk : k < fs.length) {B : Nat} (hB : base ≤ B)
    (hx : w.ownsRow B 5 1 x (fs.getD k noF).data.length ((fs.getD k noF).data.map (Value.int .u8))) (hnew : ∀ i, i < k → ∀ b, (vs.getD i undef).ownBlock = some b → b < B) : PartD (w.setCell ⟨g, k * 3 + 1, none⟩ x) base (.slice (some ⟨g, 0, none⟩) n cap) fs (vs.set k x) (k + 1) := by
  have hn : n = fs.length := by
    rcases h.row.2 with ⟨hv, _⟩ | ⟨g', cap', cur, hv, _⟩
    · cases hv
    · injection hv
  subst hn
  obtain ⟨_, r2, _⟩ := rows_at k h.len hk
  have c2 := h.row.cells rfl _ _ r2
  rw [addr_add] at c2
  have hread : ∀ {v : Value} {ys : List Int}, Reads .u8 w v ys → Reads .u8 (w.setCell ⟨g, k * 3 + 1, none⟩ x) v ys := fun hr => hr.set c2 (fun m => by
    obtain ⟨a, c, e, _⟩ := h.read k hk
    rw [e]; intro hh; cases hh)
  have hap : ∀ {b' n' : Nat} {v' : Value} {ys : List Value}, w.ownsRow b' 5 1 v' n' ys → (w.setCell ⟨g, k * 3 + 1, none⟩ x).ownsRow b' 5 1 v' n' ys := fun ho => own_other ho (own_apart ho h.row (by decide))
  have es : ∀ i, i < fs.length → i ≠ k → (vs.set k x).getD i undef = vs.getD i undef := fun i hi hne => by
    rw [List.getD_eq_getElem?_getD, List.getD_eq_getElem?_getD, List.getElem?_set_ne (fun e => hne e.symm)]
  have ek : (vs.set k x).getD k undef = x := by rw [List.getD_eq_getElem?_getD, List.getElem?_set_self (by rw [h.len]; exact hk)]; rfl
  refine ⟨by rw [List.length_set]; exact h.len, by rw [rows_set k x h.len hk]; exact own_setRow h.row, ?_, ?_, ?_⟩
  · intro i hi
    by_cases e : i = k
    · subst e; rw [ek]; exact hread (reads_own hx)
    · rw [es i hi e]; exact hread (h.read i hi)
  · intro i hi
    by_cases e : i = k
    · subst e; rw [ek]; exact own_lower (hap hx) hB
    · rw [es i (by omega) e]; exact hap (h.data i (by omega))
  · intro i j hij hj
    by_cases e : j = k
    · subst e
      rw [ek, es i (by omega) (by omega)]
      rcases hx.2 with ⟨hv, _⟩ | ⟨g', cap', cur, hv, hgB, _⟩
      · subst hv; exact .inl rfl
      · subst hv
        refine .inr fun e => ?_
        have := hnew i hij g' e.symm
        omega
    · rw [es j (by omega) e, es i (by omega) (by omega)]
      exact h.apart i j hij (by omega)

theorem rows_get : ∀ {fs : List FileL} {vs : List Value} {j : Nat} {u : Value}, vs.length = fs.length → (rows fs vs)[j]? = some u →
    ∃ i, i < fs.length ∧ ((j = i * 3 ∧ u = .string (fs.getD i noF).name) ∨ (j = i * 3 + 1 ∧ u = vs.getD i undef) ∨ (j = i * 3 + 2 ∧ u = .int .i64 (fs.getD i noF).synced))
  | [], _, j, u, _, h => by simp [rows] at h
  | f :: r, [], j, u, h, _ => by simp at h
  | f :: r, v :: vs, 0, u, _, h => ⟨0, by simp, .inl ⟨rfl, by simpa [rows] using h.symm⟩⟩
  | f :: r, v :: vs, 1, u, _, h => ⟨0, by simp, .inr (.inl ⟨rfl, by simpa [rows] using h.symm⟩)⟩
  | f :: r, v :: vs, 2, u, _, h => ⟨0, by simp, .inr (.inr ⟨rfl, by simpa [rows] using h.symm⟩)⟩
  | f :: r, v :: vs, j + 3, u, hl, h => by
    obtain ⟨i, hi, hh⟩ := rows_get (fs := r) (vs := vs) (j := j) (u := u) (by simpa using hl) (by simpa [rows] using h)
    refine ⟨i + 1, by simp; omega, ?_⟩
    rcases hh with ⟨e, eu⟩ | ⟨e, eu⟩ | ⟨e, eu⟩
    · exact .inl ⟨by omega, by simpa using eu⟩
    · exact .inr (.inl ⟨by omega, by simpa using eu⟩)
    · exact .inr (.inr ⟨by omega, by simpa using eu⟩)
theorem rows_one {fs : List FileL} {vs : List Value} (hl : vs.length = fs.length) (h : ∀ i, i < fs.length → (vs.getD i undef).oneCell' = true) : ∀ u ∈ rows fs vs, u.oneCell' = true := by
  intro u hu
  obtain ⟨j, hj⟩ := List.getElem?_of_mem hu
  obtain ⟨i, hi, hh⟩ := rows_get hl hj
  rcases hh with ⟨_, rfl⟩ | ⟨_, rfl⟩ | ⟨_, rfl⟩
  · rfl
  · exact h i hi
  · rfl

/-- 'append([]File(nil), x...)' where x reads as files. -/
theorem wpList_append_files {w : World} {ops : Array Oper} {rest : List Oper} {o : Oper} {a : Act} {Q : Exit → Act → World → Prop} (hgd : o.guard = none) (s x : Operand)
    (ho : o.op = .call { callee := .builtin .append, args := #[s, x], argTypes := #[22, 22] })
    (v2 : Value) (fs : List FileL) (hs : a.eval s = .slice none 0 0) (hx : a.eval x = v2) (hr : DiskR w v2 fs) (hlen : fs.length * 48 ≤ 140737488355328)
    (h : ∀ v' vs w', PartD w' w.heap.size v' fs vs 0 → Below w.heap.size w w' → wpList Tryd.prog ops Q rest (a.put o.dst v') w') :
    wpList Tryd.prog ops Q (o :: rest) a w := by
  obtain ⟨i0, hi, hz0, hz1, hz2⟩ := info_parts Tryd.infoF
  obtain ⟨ad, cap, rfl, hc, hm, ha, hel⟩ := hr
  cases ad with
  | none =>
    have hcap := ha rfl
    have : fs = [] := List.eq_nil_of_length_eq_zero (by omega)
    subst this
    subst hcap
    refine wpList_append_own_none hgd s x 22 ho w.heap.size 46 i0 3 Tryd.underlying22 hi (.slice none 0 0) 0 [] hs (World.ownsRow_nil _ _ _ _) hx ?_
    exact h _ [] w ⟨rfl, World.ownsRow_nil _ _ _ _, fun i hi => by simp at hi, fun i hi => by omega, fun i j _ hj => by omega⟩ (Below.refl _ _)
  | some p =>
    by_cases hn : 0 < fs.length
    · obtain ⟨b, off, e, lt, dv, hv⟩ := hel hn
      injection e with e
      subst e
      have hvl : ((List.range fs.length).map dv).length = fs.length := by simp
      have hvg : ∀ i, i < fs.length → ((List.range fs.length).map dv).getD i undef = dv i := fun i hi => by rw [List.getD_eq_getElem?_getD, List.getElem?_map, List.getElem?_range hi]; rfl
      have hone : ∀ i, i < fs.length → (((List.range fs.length).map dv).getD i undef).oneCell' = true := fun i hi => by
        rw [hvg i hi]
        obtain ⟨_, _, _, c, d, e, _⟩ := hv i hi
        rw [e]; rfl
      have hadd : ∀ t, (⟨b, off, none⟩ : Addr).add t = ⟨b, off + t, none⟩ := fun t => by unfold Addr.add; split <;> simp_all
      refine wpList_append_own w hgd s x 22 ho w.heap.size 46 i0 _ 3 48 Tryd.underlying22 hi hz0 hz1 hz2 rfl (by decide) (.slice none 0 0) 0 [] hs (World.ownsRow_nil _ _ _ _) ⟨b, off, none⟩ fs.length cap (rows fs ((List.range fs.length).map dv)) hx (rows_len hvl) ?_ (rows_one hvl hone) (by unfold maxLen; omega) (by omega) (Nat.le_refl _) ?_
      · intro j u hu
        obtain ⟨i, hi, hh⟩ := rows_get hvl hu
        obtain ⟨c1, c2, c3, _⟩ := hv i hi
        rw [hadd]
        rcases hh with ⟨rfl, rfl⟩ | ⟨rfl, rfl⟩ | ⟨rfl, rfl⟩
        · exact c1
        · rw [hvg i hi]; rw [Nat.add_assoc] at c2; exact c2
        · rw [Nat.add_assoc] at c3; exact c3
      · intro v' w' h2 h3 _
        have hb : Below w.heap.size w w' := (Below.refl _ _).grown h3 (Nat.le_refl _) (fun k hk => by simp [Value.ownBlock] at hk)
        refine h v' _ w' ⟨hvl, by simpa using h2, fun i hi => ?_, fun i hi => by omega, fun i j _ hj => by omega⟩ hb
        rw [hvg i hi]
        exact (hv i hi).2.2.2.below hb (Nat.le_refl _)
    · have : fs = [] := List.eq_nil_of_length_eq_zero (by omega)
      subst this
      refine wpList_append_own w hgd s x 22 ho w.heap.size 46 i0 _ 3 48 Tryd.underlying22 hi hz0 hz1 hz2 rfl (by decide) (.slice none 0 0) 0 [] hs (World.ownsRow_nil _ _ _ _) p 0 cap [] hx rfl (fun j u hu => by simp at hu) (fun u hu => by simp at hu) (by simp [maxLen]) (by simp) (Nat.le_refl _) ?_
      intro v' w' h2 h3 h4
      have hb : Below w.heap.size w w' := (Below.refl _ _).grown h3 (Nat.le_refl _) (fun k hk => by simp [Value.ownBlock] at hk)
      exact h v' [] w' ⟨rfl, h2, fun i hi => by simp at hi, fun i hi => by omega, fun i j _ hj => by omega⟩ hb

theorem PartD.setBelow {w : World} {base k : Nat} {v : Value} {fs : List FileL} {vs : List Value} (h : PartD w base v fs vs k) {p : Addr} (hp : p.block < base) {u x : Value} (hpc : w.cell? p = some u) (hu : ∀ n, u ≠ .int .u8 n) : PartD (w.setCell p x) base v fs vs k :=
  ⟨h.len, ownsRow_setCell_below h.row hp x, fun i hi => (h.read i hi).set hpc hu, fun i hi => ownsRow_setCell_below (h.data i hi) hp x, h.apart⟩
theorem PartD.shape {w : World} {base k : Nat} {v : Value} {fs : List FileL} {vs : List Value} (h : PartD w base v fs vs k) :
    ∃ a cap, v = .slice a fs.length cap ∧ cap ≤ maxLen ∧ (0 < fs.length → ∃ g, a = some ⟨g, 0, none⟩ ∧ base ≤ g ∧ g < w.heap.size ∧ (∀ j, w.frozen? ⟨g, j, none⟩ = false) ∧ ∀ i, i < fs.length → w.cell? ⟨g, i * 3 + 1, none⟩ = some (vs.getD i undef)) := by
  rcases h.row.2 with ⟨hv, h0⟩ | ⟨g, cap, cur, hv, hg, hgg, hc, hm, _⟩
  · exact ⟨none, 0, by rw [h0]; exact hv, by simp [maxLen], fun h => by omega⟩
  · refine ⟨_, cap, hv, hm, fun _ => ⟨g, rfl, hg, (Array.getElem?_eq_some_iff.1 hgg).1, fun j => by simp only [World.frozen?, hgg]; simp, fun i hi => ?_⟩⟩
    subst hv
    obtain ⟨_, r2, _⟩ := rows_at i h.len hi
    have c2 := h.row.cells rfl _ _ r2
    rwa [addr_add] at c2

set_option maxHeartbeats 2000000 in
set_option maxRecDepth 100000 in
theorem copyFiles_any (pb : Nat) (v : Value) (fs : List FileL) (w : World) (hp : w.cell? ⟨pb, 0, none⟩ = some v) (hpf : w.frozen? ⟨pb, 0, none⟩ = false) (h : DiskR w v fs) (hg : Good fs) (hl : fs.length ≤ 40) :
    Calls Tryd.prog 51 #[.pointer (some ⟨pb, 0, none⟩)] w fun e w' => ∃ v' vs, e = .returned (.tuple #[]) ∧ w'.cell? ⟨pb, 0, none⟩ = some v' ∧ w'.frozen? ⟨pb, 0, none⟩ = false ∧ OwnD w' w.heap.size v' fs vs ∧ Below pb w w' := by
  have lp : pb < w.heap.size := World.block_lt_of_cell? w _ hp
  have HD : Hid (DiskR w v fs) := h
  have HG : Hid (Good fs) := hg
  obtain ⟨a, cap, rfl, _, _, _, _⟩ := h
  clear hg
  go_enter Tryd.func51, Tryd.ntmps51
  go_wp2_with (at_builtin; refine wpList_append_files rfl _ _ rfl _ fs rfl rfl HD.out (by omega) ?_)
  intro v1 vs1 w1 hpart hb1
  obtain ⟨a1, c1, rfl, hm1, hsh⟩ := hpart.shape
  have k0 : w1.cell? ⟨pb, 0, none⟩ = some (.slice a fs.length cap) := (hb1.cell (p := ⟨pb, 0, none⟩) lp).trans hp
  have k1 : w1.frozen? ⟨pb, 0, none⟩ = false := (hb1.frozen (p := ⟨pb, 0, none⟩) lp).trans hpf
  have P1 : Hid (PartD (w1.setCell ⟨pb, 0, none⟩ (.slice a1 fs.length c1)) w.heap.size (.slice a1 fs.length c1) fs vs1 0) := hpart.setBelow (show pb < w.heap.size from lp) k0 (fun n hh => by cases hh)
  have B1 : Hid (Below pb w (w1.setCell ⟨pb, 0, none⟩ (.slice a1 fs.length c1))) := (hb1.mono (Nat.le_of_lt lp)).setCell (p := ⟨pb, 0, none⟩) (show pb ≤ pb from Nat.le_refl _) _
  have k2 : (w1.setCell ⟨pb, 0, none⟩ (.slice a1 fs.length c1)).cell? ⟨pb, 0, none⟩ = some (.slice a1 fs.length c1) := World.cell?_setCell_same _ _ _ k0
  have hs1 : w.heap.size ≤ (w1.setCell ⟨pb, 0, none⟩ (.slice a1 fs.length c1)).heap.size := by rw [size_setCell]; exact hb1.size
  have k3 : (w1.setCell ⟨pb, 0, none⟩ (.slice a1 fs.length c1)).frozen? ⟨pb, 0, none⟩ = false := (World.frozen?_setCell _ _ _ _).trans k1
  unfold maxLen at hm1
  clear hpart hb1 hsh
  go_wp2_with fail
  generalize w1.setCell ⟨pb, 0, none⟩ (.slice a1 fs.length c1) = w2 at *
  go_loopw [19] (fun i wr => ∃ (k : Nat) (vs : List Value), k ≤ fs.length ∧ i = .int .i64 k ∧ PartD wr w.heap.size (.slice a1 fs.length c1) fs vs k ∧ wr.cell? ⟨pb, 0, none⟩ = some (.slice a1 fs.length c1) ∧ wr.frozen? ⟨pb, 0, none⟩ = false ∧ w.heap.size ≤ wr.heap.size ∧ Below pb w wr) (fun i _ => fs.length - (intOf i).toNat)
  case atStart => exact ⟨0, vs1, by omega, rfl, P1.out, k2, k3, hs1, B1.out⟩
  case round =>
    obtain ⟨k, vs, hk, rfl, hpart, hcp, hfp, hsz, hbel⟩ := hrel
    have HP : Hid (PartD wr w.heap.size (.slice a1 fs.length c1) fs vs k) := hpart
    have HB : Hid (Below pb w wr) := hbel
    by_cases hlt : k < fs.length
    · obtain ⟨a2, c2, e2, _, hsh⟩ := hpart.shape
      injection e2 with e2 _ e3
      subst e2 e3
      obtain ⟨g, rfl, hg1, hg2, hfz, hcells⟩ := hsh (by omega)
      have hck := hcells k hlt
      have hfk := hfz (k * 3 + 1)
      have RD : Hid (Reads .u8 wr (vs.getD k undef) (fs.getD k noF).data) := hpart.read k hlt
      have hdl : (fs.getD k noF).data.length ≤ 140737488355328 := by have := (HG.out k hlt).2.2.2.2; omega
      have HST : Hid (∀ w6 v6, Below wr.heap.size wr w6 → w6.ownsRow wr.heap.size 5 1 v6 (fs.getD k noF).data.length ((fs.getD k noF).data.map (Value.int .u8)) → PartD (w6.setCell ⟨g, k * 3 + 1, none⟩ v6) w.heap.size (.slice (some ⟨g, 0, none⟩) fs.length c1) fs (vs.set k v6) (k + 1)) := fun w6 v6 hb6 ho6 =>
        (HP.out.below hb6 (Nat.le_refl _)).store hlt hsz ho6 (fun i hi b hbk => ((HP.out.data i hi).lt b hbk).2)
      clear hpart hbel hcells hfz hsh
      generalize vs.getD k undef = dv at *
      generalize fs.getD k noF = f at *
      obtain ⟨da, dn, dc, rfl⟩ : ∃ a n c, dv = .slice a n c := by obtain ⟨a, c, h, _⟩ := RD.out; exact ⟨_, _, _, h⟩
      have q0 : (0 : Int) ≤ (k : Int) := by omega
      have q1 : (k : Int) < (fs.length : Int) := by omega
      have lpr : pb < wr.heap.size := by omega
      go_wp2_with fail
      go_region_with (first
        | (go_at_call 42; refine (clone_any _ f.data _ ?_ hdl).mono ?_; exact RD.out; rintro e w6 ⟨v6, rfl, hown6, hbel6⟩; have hb6 : Below wr.heap.size wr w6 := ⟨hbel6.os, hbel6.tape, hbel6.output, hbel6.size, hbel6.block⟩; have ho6 : w6.ownsRow wr.heap.size 5 1 v6 f.data.length (f.data.map (Value.int .u8)) := hown6; have j0 := (hb6.cell (p := ⟨pb, 0, none⟩) lpr).trans hcp; have j1 := (hb6.cell (p := ⟨g, k * 3 + 1, none⟩) hg2).trans hck; have j2 := (hb6.frozen (p := ⟨g, k * 3 + 1, none⟩) hg2).trans hfk; have j3 := (hb6.frozen (p := ⟨pb, 0, none⟩) lpr).trans hfp; clear hown6 hbel6; obtain ⟨xa, xn, xc, rfl⟩ : ∃ a n c, v6 = .slice a n c := by obtain ⟨a, c, h, _⟩ := reads_own ho6; exact ⟨_, _, _, h⟩))
      all_goals
        have P7 := HST.out _ _ hb6 ho6
        have hpg : pb ≠ g := by omega
        go_wp2_with fail
        go_roundw
        case rel => exact ⟨k + 1, _, by omega, by go_num, P7, by rw [World.cell?_setCell_other _ _ _ _ (fun e => hpg (congrArg Addr.block e).symm)]; exact j0, (World.frozen?_setCell _ _ _ _).trans j3, by rw [size_setCell]; have := hb6.size; omega, (HB.out.trans (hb6.mono (by omega))).setCell (show pb ≤ g by omega) _⟩
        case measure => simp [intOf]; omega
    · have ek : k = fs.length := by omega
      subst ek
      go_wp2_with fail
      go_end0
      exact ⟨_, vs, rfl, hcp, hfp, HP.out.own, HB.out⟩
end Go.Proofs.YthakibcfmbkpkaaDoor

namespace Go.Proofs.YthakibcfmbkpkaaDoor
set_option maxRecDepth 100000
open Go.ChangeShapes Go.WideShapes Go.ChangeAt Go.RowKit

/-- P3.1 ahead of all else. -/
def chF (fs : List FileL) (g : List FileL × Int) : List FileL × Int := if mayB fs = true then g else ([], 9)

/-- What a change does with a disk at work, in the block p: it answers an error, or leaves the files g. -/
def Change (fs : List FileL) (g : List FileL × Int) (k : Nat) (caps : List Value) (w : World) : Prop :=
  ∀ (p B : Nat) (w3 : World) (v3 : Value) (vs : List Value), w.heap.size ≤ p → p < B → B ≤ w3.heap.size → w3.cell? ⟨p, 0, none⟩ = some v3 → w3.frozen? ⟨p, 0, none⟩ = false → OwnD w3 B v3 fs vs → Below w.heap.size w w3 → mayB fs = true →
    Calls Tryd.prog k (.pointer (some ⟨p, 0, none⟩) :: caps).toArray w3 fun e w4 => ∃ v4, e = .returned (.int .i64 g.2) ∧ w4.cell? ⟨p, 0, none⟩ = some v4 ∧ (g.2 = 0 → DiskR w4 v4 g.1) ∧ Below p w3 w4

theorem diskR_nil (w : World) : DiskR w (.slice none 0 0) [] := ⟨none, 0, rfl, by simp, by simp [maxLen], fun _ => rfl, fun hn => by simp at hn⟩
/-- A disk behind a store into a cell that held a slice. -/
theorem DiskR.setSlice {w : World} {v : Value} {fs : List FileL} {p : Addr} {a : Option Addr} {n c : Nat} {x : Value} (h : DiskR w v fs) (hp : w.cell? p = some (.slice a n c)) (hne : 0 < fs.length → ∀ b off cap, v = .slice (some ⟨b, off, none⟩) fs.length cap → p.block ≠ b) : DiskR (w.setCell p x) v fs := by
  obtain ⟨a', cap, rfl, hc, hm, ha, hel⟩ := h
  refine ⟨a', cap, rfl, hc, hm, ha, fun hn => ?_⟩
  obtain ⟨b, off, rfl, lt, vs, hv⟩ := hel hn
  have hb := hne hn b off cap rfl
  refine ⟨b, off, rfl, by rw [size_setCell]; exact lt, vs, fun i hi => ?_⟩
  obtain ⟨c1, c2, c3, c4⟩ := hv i hi
  have far : ∀ o u, w.cell? ⟨b, o, none⟩ = some u → (w.setCell p x).cell? ⟨b, o, none⟩ = some u := fun o u hu => by
    rw [World.cell?_setCell_other _ _ _ _ (fun e => hb (congrArg Addr.block e))]; exact hu
  exact ⟨far _ _ c1, far _ _ c2, far _ _ c3, c4.set hp (fun m hh => by cases hh)⟩

set_option maxHeartbeats 1000000 in
set_option maxRecDepth 100000 in
theorem changed_one (v : Value) (fs : List FileL) (g : List FileL × Int) (k : Nat) (c1 : Value) (w : World) (h : DiskR w v fs) (hg : Good fs) (hge : g.2 ≠ 0 → g.1 = []) (hent : ∀ args w, (callFunc k args).run Tryd.prog w = .ok (.enter k args) w) (hch : Change fs g k [c1] w) :
    Calls Tryd.prog 33 #[.agg #[v], .func (.func k) #[] #[c1]] w fun e w' => ∃ v', e = .returned (.tuple #[.agg #[v'], .int .i64 (chF fs g).2]) ∧ DiskR w' v' (chF fs g).1 ∧ Below w.heap.size w w' := by
  have HG : Hid (Good fs) := hg
  have HD : Hid (DiskR w v fs) := h
  have HC : Hid (Change fs g k [c1] w) := hch
  have HGE : Hid (g.2 ≠ 0 → g.1 = []) := hge
  obtain ⟨a, cap, rfl, hc, hm, _, _⟩ := h
  clear hg hch hge
  unfold maxLen at hm
  go_enter Tryd.func33, Tryd.ntmps33
  go_wp2_with fail
  refine (mayBe_any (w.heap.size + 2) (.slice a fs.length cap) fs _ ?_ ?_ HG.out).mono ?_
  · exact cell_third _ _ _ _ _
  · exact ((HD.out.below (below_alloc _ _) (Nat.le_refl _)).below (below_alloc _ _) (Nat.le_refl _)).below (below_alloc _ _) (Nat.le_refl _)
  rintro e w1 ⟨rfl, hb1⟩
  have hb1' : Below (w.heap.size + 3) (((w.alloc (.cells #[.slice a fs.length cap] 24)).alloc (.cells #[.slice none 0 0] 24)).alloc (.cells #[.slice a fs.length cap] 62)) w1 := by simpa using hb1
  have r1 : w1.cell? ⟨w.heap.size + 2, 0, none⟩ = some (.slice a fs.length cap) := (hb1'.cell (p := ⟨w.heap.size + 2, 0, none⟩) (Nat.lt_succ_self _)).trans (cell_third _ _ _ _ _)
  have r2 : w1.frozen? ⟨w.heap.size + 2, 0, none⟩ = false := (hb1'.frozen (p := ⟨w.heap.size + 2, 0, none⟩) (Nat.lt_succ_self _)).trans (frozen_third _ _ _ _ _)
  have B0 : Hid (Below (w.heap.size + 2) ((w.alloc (.cells #[.slice a fs.length cap] 24)).alloc (.cells #[.slice none 0 0] 24)) w1) := ((Below.refl _ _).alloc (by simp) _).trans (hb1'.mono (by omega))
  have hs1 : w.heap.size + 3 ≤ w1.heap.size := by have := hb1'.size; simp at this; omega
  have B1 : Hid (Below w.heap.size w w1) := below_two B0.out
  have D1 : Hid (DiskR w1 (.slice a fs.length cap) fs) := HD.out.below B1.out (Nat.le_refl _)
  clear hb1 hb1'
  cases hmay : mayB fs with
  | false =>
    have HF : Hid (chF fs g = ([], 9)) := by simp [chF, Hid, hmay]
    have t1 : w1.cell? ⟨w.heap.size + 1, 0, none⟩ = some (.slice none 0 0) := (B0.out.cell (p := ⟨w.heap.size + 1, 0, none⟩) (Nat.lt_succ_self _)).trans (cell_second _ _ _ _)
    have t2 : w1.frozen? ⟨w.heap.size + 1, 0, none⟩ = false := (B0.out.frozen (p := ⟨w.heap.size + 1, 0, none⟩) (Nat.lt_succ_self _)).trans (frozen_second _ _ _ _)
    clear hmay
    go_wp2_with fail
    refine bodyPost_ret (v := .tuple #[.agg #[.slice none 0 0], .int .i64 9]) (by simp [results, Tryd.results33, go_sem, t1]) rfl ⟨.slice none 0 0, by rw [HF.out], by rw [HF.out]; exact diskR_nil _, B1.out.setCell (show w.heap.size ≤ w.heap.size + 1 by omega) _⟩
  | true =>
    have HMAY : Hid (mayB fs = true) := hmay
    have HF : Hid (chF fs g = g) := by simp [chF, Hid, hmay]
    clear hmay
    have h40 := (may_iff.1 HMAY.out).1
    go_wp2_with fail
    refine (copyFiles_any (w.heap.size + 2) (.slice a fs.length cap) fs _ r1 r2 D1.out HG.out h40).mono ?_
    rintro e w2 ⟨v2, vs2, rfl, hc2, hf2, ho2, hb2⟩
    have B2 : Hid (Below (w.heap.size + 2) ((w.alloc (.cells #[.slice a fs.length cap] 24)).alloc (.cells #[.slice none 0 0] 24)) w2) := B0.out.trans hb2
    have hs2 := hb2.size
    have O2 : Hid (OwnD w2 w1.heap.size v2 fs vs2) := ho2
    clear hb2 ho2
    go_wp2_with fail
    refine (HC.out (w.heap.size + 2) w1.heap.size _ v2 vs2 (by omega) (by omega) hs2 hc2 hf2 O2.out (below_two B2.out) HMAY.out).mono ?_
    rintro e w4 ⟨v4, rfl, hc4, hd4, hb4⟩
    have B4 : Hid (Below (w.heap.size + 2) ((w.alloc (.cells #[.slice a fs.length cap] 24)).alloc (.cells #[.slice none 0 0] 24)) w4) := B2.out.trans hb4
    have t1 : w4.cell? ⟨w.heap.size + 1, 0, none⟩ = some (.slice none 0 0) := (B4.out.cell (p := ⟨w.heap.size + 1, 0, none⟩) (Nat.lt_succ_self _)).trans (cell_second _ _ _ _)
    have t2 : w4.frozen? ⟨w.heap.size + 1, 0, none⟩ = false := (B4.out.frozen (p := ⟨w.heap.size + 1, 0, none⟩) (Nat.lt_succ_self _)).trans (frozen_second _ _ _ _)
    clear hb4
    by_cases he : g.2 = 0
    · have HD4 : Hid (DiskR w4 v4 g.1) := hd4 he
      have HE : Hid (g.2 = 0) := he
      have he' : (g.2 != 0) = false := by simp [he]
      clear hd4 he
      obtain ⟨a4, c4, rfl, _, _, _, hel4⟩ := HD4.out
      have hblk : w4.heap[w.heap.size + 1]? = some (.cells #[.slice none 0 0] 24 (0, 0)) := by
        rw [B4.out.block (w.heap.size + 1) (Nat.lt_succ_self _)]
        have := heap_alloc_new (w.alloc (.cells #[.slice a fs.length cap] 24)) (.cells #[.slice none 0 0] 24)
        simpa using this
      have D5 : Hid (DiskR (w4.setCell ⟨w.heap.size + 1, 0, none⟩ (.slice a4 g.1.length c4)) (.slice a4 g.1.length c4) g.1) := by
        refine HD4.out.setSlice t1 (fun hn b off cap' e hb => ?_)
        injection e with e1 _ _
        subst e1
        have hb' : w.heap.size + 1 = b := hb
        subst hb'
        obtain ⟨b', off', e', _, vs', hv'⟩ := hel4 hn
        injection e' with e'
        injection e' with e1 e2
        subst e1 e2
        have c2 := (hv' 0 hn).2.1
        rw [cell_of_row w4 _ _ _ _ _ hblk] at c2
        simp at c2
      have HR : Hid (g = (g.1, 0)) := Prod.ext rfl HE.out
      clear hel4 hblk
      generalize g.2 = q at *
      go_wp2_with fail
      refine bodyPost_ret (v := .tuple #[.agg #[.slice a4 g.1.length c4], .int .i64 0]) (by simp [results, Tryd.results33, go_sem, t1]) rfl ⟨_, by rw [HF.out, HR.out], by rw [HF.out]; exact D5.out, (below_two B4.out).setCell (show w.heap.size ≤ w.heap.size + 1 by omega) _⟩
    · have HR : Hid (g = ([], g.2)) := Prod.ext (HGE.out he) rfl
      have he' : (g.2 != 0) = true := by simp [he]
      clear hd4 he
      generalize g.2 = q at *
      go_wp2_with fail
      refine bodyPost_ret (v := .tuple #[.agg #[.slice none 0 0], .int .i64 q]) (by simp [results, Tryd.results33, go_sem, t1]) rfl ⟨.slice none 0 0, by rw [HF.out, HR.out], by rw [HF.out, HR.out]; exact diskR_nil _, (below_two B4.out).setCell (show w.heap.size ≤ w.heap.size + 1 by omega) _⟩
set_option maxHeartbeats 1000000 in
set_option maxRecDepth 100000 in
theorem changed_two (v : Value) (fs : List FileL) (g : List FileL × Int) (k : Nat) (c1 c2 : Value) (w : World) (h : DiskR w v fs) (hg : Good fs) (hge : g.2 ≠ 0 → g.1 = []) (hent : ∀ args w, (callFunc k args).run Tryd.prog w = .ok (.enter k args) w) (hch : Change fs g k [c1, c2] w) :
    Calls Tryd.prog 33 #[.agg #[v], .func (.func k) #[] #[c1, c2]] w fun e w' => ∃ v', e = .returned (.tuple #[.agg #[v'], .int .i64 (chF fs g).2]) ∧ DiskR w' v' (chF fs g).1 ∧ Below w.heap.size w w' := by
  have HG : Hid (Good fs) := hg
  have HD : Hid (DiskR w v fs) := h
  have HC : Hid (Change fs g k [c1, c2] w) := hch
  have HGE : Hid (g.2 ≠ 0 → g.1 = []) := hge
  obtain ⟨a, cap, rfl, hc, hm, _, _⟩ := h
  clear hg hch hge
  unfold maxLen at hm
  go_enter Tryd.func33, Tryd.ntmps33
  go_wp2_with fail
  refine (mayBe_any (w.heap.size + 2) (.slice a fs.length cap) fs _ ?_ ?_ HG.out).mono ?_
  · exact cell_third _ _ _ _ _
  · exact ((HD.out.below (below_alloc _ _) (Nat.le_refl _)).below (below_alloc _ _) (Nat.le_refl _)).below (below_alloc _ _) (Nat.le_refl _)
  rintro e w1 ⟨rfl, hb1⟩
  have hb1' : Below (w.heap.size + 3) (((w.alloc (.cells #[.slice a fs.length cap] 24)).alloc (.cells #[.slice none 0 0] 24)).alloc (.cells #[.slice a fs.length cap] 62)) w1 := by simpa using hb1
  have r1 : w1.cell? ⟨w.heap.size + 2, 0, none⟩ = some (.slice a fs.length cap) := (hb1'.cell (p := ⟨w.heap.size + 2, 0, none⟩) (Nat.lt_succ_self _)).trans (cell_third _ _ _ _ _)
  have r2 : w1.frozen? ⟨w.heap.size + 2, 0, none⟩ = false := (hb1'.frozen (p := ⟨w.heap.size + 2, 0, none⟩) (Nat.lt_succ_self _)).trans (frozen_third _ _ _ _ _)
  have B0 : Hid (Below (w.heap.size + 2) ((w.alloc (.cells #[.slice a fs.length cap] 24)).alloc (.cells #[.slice none 0 0] 24)) w1) := ((Below.refl _ _).alloc (by simp) _).trans (hb1'.mono (by omega))
  have hs1 : w.heap.size + 3 ≤ w1.heap.size := by have := hb1'.size; simp at this; omega
  have B1 : Hid (Below w.heap.size w w1) := below_two B0.out
  have D1 : Hid (DiskR w1 (.slice a fs.length cap) fs) := HD.out.below B1.out (Nat.le_refl _)
  clear hb1 hb1'
  cases hmay : mayB fs with
  | false =>
    have HF : Hid (chF fs g = ([], 9)) := by simp [chF, Hid, hmay]
    have t1 : w1.cell? ⟨w.heap.size + 1, 0, none⟩ = some (.slice none 0 0) := (B0.out.cell (p := ⟨w.heap.size + 1, 0, none⟩) (Nat.lt_succ_self _)).trans (cell_second _ _ _ _)
    have t2 : w1.frozen? ⟨w.heap.size + 1, 0, none⟩ = false := (B0.out.frozen (p := ⟨w.heap.size + 1, 0, none⟩) (Nat.lt_succ_self _)).trans (frozen_second _ _ _ _)
    clear hmay
    go_wp2_with fail
    refine bodyPost_ret (v := .tuple #[.agg #[.slice none 0 0], .int .i64 9]) (by simp [results, Tryd.results33, go_sem, t1]) rfl ⟨.slice none 0 0, by rw [HF.out], by rw [HF.out]; exact diskR_nil _, B1.out.setCell (show w.heap.size ≤ w.heap.size + 1 by omega) _⟩
  | true =>
    have HMAY : Hid (mayB fs = true) := hmay
    have HF : Hid (chF fs g = g) := by simp [chF, Hid, hmay]
    clear hmay
    have h40 := (may_iff.1 HMAY.out).1
    go_wp2_with fail
    refine (copyFiles_any (w.heap.size + 2) (.slice a fs.length cap) fs _ r1 r2 D1.out HG.out h40).mono ?_
    rintro e w2 ⟨v2, vs2, rfl, hc2, hf2, ho2, hb2⟩
    have B2 : Hid (Below (w.heap.size + 2) ((w.alloc (.cells #[.slice a fs.length cap] 24)).alloc (.cells #[.slice none 0 0] 24)) w2) := B0.out.trans hb2
    have hs2 := hb2.size
    have O2 : Hid (OwnD w2 w1.heap.size v2 fs vs2) := ho2
    clear hb2 ho2
    go_wp2_with fail
    refine (HC.out (w.heap.size + 2) w1.heap.size _ v2 vs2 (by omega) (by omega) hs2 hc2 hf2 O2.out (below_two B2.out) HMAY.out).mono ?_
    rintro e w4 ⟨v4, rfl, hc4, hd4, hb4⟩
    have B4 : Hid (Below (w.heap.size + 2) ((w.alloc (.cells #[.slice a fs.length cap] 24)).alloc (.cells #[.slice none 0 0] 24)) w4) := B2.out.trans hb4
    have t1 : w4.cell? ⟨w.heap.size + 1, 0, none⟩ = some (.slice none 0 0) := (B4.out.cell (p := ⟨w.heap.size + 1, 0, none⟩) (Nat.lt_succ_self _)).trans (cell_second _ _ _ _)
    have t2 : w4.frozen? ⟨w.heap.size + 1, 0, none⟩ = false := (B4.out.frozen (p := ⟨w.heap.size + 1, 0, none⟩) (Nat.lt_succ_self _)).trans (frozen_second _ _ _ _)
    clear hb4
    by_cases he : g.2 = 0
    · have HD4 : Hid (DiskR w4 v4 g.1) := hd4 he
      have HE : Hid (g.2 = 0) := he
      have he' : (g.2 != 0) = false := by simp [he]
      clear hd4 he
      obtain ⟨a4, c4, rfl, _, _, _, hel4⟩ := HD4.out
      have hblk : w4.heap[w.heap.size + 1]? = some (.cells #[.slice none 0 0] 24 (0, 0)) := by
        rw [B4.out.block (w.heap.size + 1) (Nat.lt_succ_self _)]
        have := heap_alloc_new (w.alloc (.cells #[.slice a fs.length cap] 24)) (.cells #[.slice none 0 0] 24)
        simpa using this
      have D5 : Hid (DiskR (w4.setCell ⟨w.heap.size + 1, 0, none⟩ (.slice a4 g.1.length c4)) (.slice a4 g.1.length c4) g.1) := by
        refine HD4.out.setSlice t1 (fun hn b off cap' e hb => ?_)
        injection e with e1 _ _
        subst e1
        have hb' : w.heap.size + 1 = b := hb
        subst hb'
        obtain ⟨b', off', e', _, vs', hv'⟩ := hel4 hn
        injection e' with e'
        injection e' with e1 e2
        subst e1 e2
        have y2 := (hv' 0 hn).2.1
        rw [cell_of_row w4 _ _ _ _ _ hblk] at y2
        simp at y2
      have HR : Hid (g = (g.1, 0)) := Prod.ext rfl HE.out
      clear hel4 hblk
      generalize g.2 = q at *
      go_wp2_with fail
      refine bodyPost_ret (v := .tuple #[.agg #[.slice a4 g.1.length c4], .int .i64 0]) (by simp [results, Tryd.results33, go_sem, t1]) rfl ⟨_, by rw [HF.out, HR.out], by rw [HF.out]; exact D5.out, (below_two B4.out).setCell (show w.heap.size ≤ w.heap.size + 1 by omega) _⟩
    · have HR : Hid (g = ([], g.2)) := Prod.ext (HGE.out he) rfl
      have he' : (g.2 != 0) = true := by simp [he]
      clear hd4 he
      generalize g.2 = q at *
      go_wp2_with fail
      refine bodyPost_ret (v := .tuple #[.agg #[.slice none 0 0], .int .i64 q]) (by simp [results, Tryd.results33, go_sem, t1]) rfl ⟨.slice none 0 0, by rw [HF.out, HR.out], by rw [HF.out, HR.out]; exact diskR_nil _, (below_two B4.out).setCell (show w.heap.size ≤ w.heap.size + 1 by omega) _⟩
end Go.Proofs.YthakibcfmbkpkaaDoor

namespace Go.Proofs.YthakibcfmbkpkaaDoor
set_option maxRecDepth 100000
open Go.ChangeShapes Go.WideShapes Go.ChangeAt Go.RowKit

theorem getD_set_eq {fs : List FileL} {k : Nat} {f : FileL} (h : k < fs.length) : (fs.set k f).getD k noF = f := by
  rw [List.getD_eq_getElem?_getD, List.getElem?_set_self h]; rfl
theorem getD_set_ne {fs : List FileL} {k i : Nat} {f : FileL} (h : i ≠ k) : (fs.set k f).getD i noF = fs.getD i noF := by
  rw [List.getD_eq_getElem?_getD, List.getD_eq_getElem?_getD, List.getElem?_set_ne (fun e => h e.symm)]

theorem addr_ne {g o o' : Nat} (h : o ≠ o') : (⟨g, o, none⟩ : Addr) ≠ ⟨g, o', none⟩ := fun e => h (congrArg Addr.off e)

theorem fileC_other {w : World} {g i k r : Nat} {v x u : Value} {f : FileL} (h : FileC w g (i * 3) v f) (hp : w.cell? ⟨g, k * 3 + r, none⟩ = some u) (hu : ∀ n, u ≠ .int .u8 n) (hr : r < 3) (hne : i ≠ k) : FileC (w.setCell ⟨g, k * 3 + r, none⟩ x) g (i * 3) v f := by
  obtain ⟨c1, c2, c3, c4⟩ := h
  refine ⟨?_, ?_, ?_, c4.set hp hu⟩
  · rw [World.cell?_setCell_other _ _ _ _ (addr_ne (by omega))]; exact c1
  · rw [World.cell?_setCell_other _ _ _ _ (addr_ne (by omega))]; exact c2
  · rw [World.cell?_setCell_other _ _ _ _ (addr_ne (by omega))]; exact c3
theorem fileC_synced {w : World} {g o : Nat} {v : Value} {f : FileL} {s : Int} (h : FileC w g o v f) : FileC (w.setCell ⟨g, o + 2, none⟩ (.int .i64 s)) g o v { f with synced := s } := by
  obtain ⟨c1, c2, c3, c4⟩ := h
  refine ⟨?_, ?_, ?_, c4.set c3 (fun n hh => by cases hh)⟩
  · rw [World.cell?_setCell_other _ _ _ _ (addr_ne (by omega))]; exact c1
  · rw [World.cell?_setCell_other _ _ _ _ (addr_ne (by omega))]; exact c2
  · exact World.cell?_setCell_same _ _ _ c3
theorem fileC_name {w : World} {g o : Nat} {v : Value} {f : FileL} {n : ByteArray} (h : FileC w g o v f) : FileC (w.setCell ⟨g, o, none⟩ (.string n)) g o v { f with name := n } := by
  obtain ⟨c1, c2, c3, c4⟩ := h
  refine ⟨?_, ?_, ?_, c4.set c1 (fun n hh => by cases hh)⟩
  · exact World.cell?_setCell_same _ _ _ c1
  · rw [World.cell?_setCell_other _ _ _ _ (addr_ne (by omega))]; exact c2
  · rw [World.cell?_setCell_other _ _ _ _ (addr_ne (by omega))]; exact c3
theorem fileC_data {w : World} {g o : Nat} {v v' : Value} {f : FileL} {l : List Int} (h : FileC w g o v f) (hr : Reads .u8 w v' l) : FileC (w.setCell ⟨g, o + 1, none⟩ v') g o v' { f with data := l } := by
  obtain ⟨c1, c2, c3, c4⟩ := h
  refine ⟨?_, ?_, ?_, hr.set c2 (fun n hh => ?_)⟩
  · rw [World.cell?_setCell_other _ _ _ _ (addr_ne (by omega))]; exact c1
  · exact World.cell?_setCell_same _ _ _ c2
  · rw [World.cell?_setCell_other _ _ _ _ (addr_ne (by omega))]; exact c3
  · obtain ⟨a, c, e, _⟩ := c4
    rw [e] at hh; cases hh

/-- Files that stand in a row from a block's head on. -/
structure RowF (w : World) (g cap : Nat) (fs : List FileL) (vs : Nat → Value) : Prop where
  le : fs.length ≤ cap
  max : cap ≤ maxLen
  lt : g < w.heap.size
  file : ∀ i, i < fs.length → FileC w g (i * 3) (vs i) (fs.getD i noF)
  free : ∀ j, w.frozen? ⟨g, j, none⟩ = false

theorem RowF.reads {w : World} {g cap : Nat} {fs : List FileL} {vs : Nat → Value} (h : RowF w g cap fs vs) : DiskR w (.slice (some ⟨g, 0, none⟩) fs.length cap) fs :=
  ⟨_, cap, rfl, h.le, h.max, fun e => (by cases e), fun _ => ⟨g, 0, rfl, h.lt, vs, fun i hi => by simpa using h.file i hi⟩⟩
theorem RowF.below {w w' : World} {g cap B : Nat} {fs : List FileL} {vs : Nat → Value} (h : RowF w g cap fs vs) (hb : Below B w w') (hB : w.heap.size ≤ B) : RowF w' g cap fs vs :=
  ⟨h.le, h.max, Nat.lt_of_lt_of_le h.lt hb.size, fun i hi => (h.file i hi).below hb hB, fun j => (hb.frozen (p := ⟨g, j, none⟩) (Nat.lt_of_lt_of_le h.lt hB)).trans (h.free j)⟩
theorem OwnD.rowF {w : World} {base g n cap : Nat} {fs : List FileL} {vs : List Value} (h : OwnD w base (.slice (some ⟨g, 0, none⟩) n cap) fs vs) : RowF w g cap fs (fun i => vs.getD i undef) ∧ n = fs.length := by
  rcases h.shape with ⟨e, _⟩ | ⟨g', cap', e, _, hlt, hc, hm⟩
  · cases e
  · injection e with e1 e2 e3
    injection e1 with e1
    injection e1 with e1
    subst e1 e2 e3
    exact ⟨⟨hc, hm, hlt, h.files rfl, h.frozen⟩, rfl⟩
theorem RowF.set {w : World} {g cap k r : Nat} {fs : List FileL} {vs : Nat → Value} {f : FileL} {v x : Value} {u : Value} (h : RowF w g cap fs vs) (hk : k < fs.length) (hp : w.cell? ⟨g, k * 3 + r, none⟩ = some u) (hu : ∀ n, u ≠ .int .u8 n) (hr : r < 3)
    (hf : FileC (w.setCell ⟨g, k * 3 + r, none⟩ x) g (k * 3) v f) : RowF (w.setCell ⟨g, k * 3 + r, none⟩ x) g cap (fs.set k f) (fun i => if i = k then v else vs i) := by
  refine ⟨by rw [List.length_set]; exact h.le, h.max, by rw [size_setCell]; exact h.lt, fun i hi => ?_, fun j => (World.frozen?_setCell _ _ _ _).trans (h.free j)⟩
  rw [List.length_set] at hi
  by_cases e : i = k
  · subst e
    rw [getD_set_eq hk, if_pos rfl]
    exact hf
  · rw [getD_set_ne e, if_neg e]
    exact fileC_other (h.file i hi) hp hu hr e
theorem RowF.setSynced {w : World} {g cap k : Nat} {fs : List FileL} {vs : Nat → Value} (h : RowF w g cap fs vs) (hk : k < fs.length) (s : Int) :
    RowF (w.setCell ⟨g, k * 3 + 2, none⟩ (.int .i64 s)) g cap (fs.set k { fs.getD k noF with synced := s }) vs := by
  have := h.set hk (h.file k hk).2.2.1 (fun n hh => by cases hh) (by omega) (fileC_synced (s := s) (h.file k hk))
  refine ⟨this.le, this.max, this.lt, fun i hi => ?_, this.free⟩
  have h2 := this.file i hi
  by_cases e : i = k
  · subst e; simpa using h2
  · simpa [e] using h2
theorem RowF.setName {w : World} {g cap k : Nat} {fs : List FileL} {vs : Nat → Value} (h : RowF w g cap fs vs) (hk : k < fs.length) (n : ByteArray) :
    RowF (w.setCell ⟨g, k * 3, none⟩ (.string n)) g cap (fs.set k { fs.getD k noF with name := n }) vs := by
  have := h.set (r := 0) hk (h.file k hk).1 (fun n hh => by cases hh) (by omega) (fileC_name (n := n) (h.file k hk))
  refine ⟨this.le, this.max, this.lt, fun i hi => ?_, this.free⟩
  have h2 := this.file i hi
  by_cases e : i = k
  · subst e; simpa using h2
  · simpa [e] using h2
theorem RowF.setData {w : World} {g cap k : Nat} {fs : List FileL} {vs : Nat → Value} {v' : Value} {l : List Int} (h : RowF w g cap fs vs) (hk : k < fs.length) (hr : Reads .u8 w v' l) :
    RowF (w.setCell ⟨g, k * 3 + 1, none⟩ v') g cap (fs.set k { fs.getD k noF with data := l }) (fun i => if i = k then v' else vs i) :=
  h.set hk (h.file k hk).2.1 (fun n hh => by obtain ⟨a, c, e, _⟩ := (h.file k hk).2.2.2; rw [e] at hh; cases hh) (by omega) (fileC_data (h.file k hk) hr)
/-- A disk of the call's own: none, or a row. -/
theorem OwnD.row_or {w : World} {base : Nat} {v : Value} {fs : List FileL} {vs : List Value} (h : OwnD w base v fs vs) :
    (v = .slice none 0 0 ∧ fs = []) ∨ ∃ g cap, v = .slice (some ⟨g, 0, none⟩) fs.length cap ∧ base ≤ g ∧ RowF w g cap fs (fun i => vs.getD i undef) := by
  rcases h.shape with h1 | ⟨g, cap, e, hg, _⟩
  · exact .inl h1
  · subst e
    exact .inr ⟨g, cap, rfl, hg, h.rowF.1⟩
end Go.Proofs.YthakibcfmbkpkaaDoor

namespace Go.Proofs.YthakibcfmbkpkaaDoor
set_option maxRecDepth 100000
open Go.ChangeShapes Go.WideShapes Go.ChangeAt Go.RowKit

/-- A disk behind a store into a block of one cell that held a slice. -/
theorem DiskR.setBox {w : World} {v y : Value} {fs : List FileL} {q n c : Nat} {a : Option Addr} {t : TypeId} (h : DiskR w v fs) (hb : w.heap[q]? = some (.cells #[.slice a n c] t (0, 0))) : DiskR (w.setCell ⟨q, 0, none⟩ y) v fs := by
  have hc : w.cell? ⟨q, 0, none⟩ = some (.slice a n c) := by rw [cell_of_row w _ _ _ _ _ hb]; rfl
  refine h.setSlice hc (fun hn b off cap e hq => ?_)
  have hq' : q = b := hq
  subst hq'
  obtain ⟨a', cap', rfl, _, _, _, hel⟩ := h
  injection e with e1 _ _
  subst e1
  obtain ⟨b', off', e', _, vs', hv'⟩ := hel hn
  injection e' with e'
  injection e' with e1 e2
  subst e1 e2
  have c2 := (hv' 0 hn).2.1
  rw [cell_of_row w _ _ _ _ _ hb] at c2
  simp at c2
theorem DiskR.drew {w : World} {v : Value} {fs : List FileL} (h : DiskR w v fs) : DiskR w.drew v fs := h.below (Below.refl w.heap.size w).drew (Nat.le_refl _)
/-- The block of a result's cell, behind all that a call has done since. -/
theorem two_block1 {w w' : World} {v : Value} {t : TypeId} {o : Obj} (h : Below (w.heap.size + 2) ((w.alloc o).alloc (.cells #[v] t)) w') : w'.heap[w.heap.size + 1]? = some (.cells #[v] t (0, 0)) := by
  rw [h.block (w.heap.size + 1) (Nat.lt_succ_self _)]
  have := heap_alloc_new (w.alloc o) (.cells #[v] t)
  simpa using this
theorem two_frozen1 {w w' : World} {v : Value} {t : TypeId} {o : Obj} (h : Below (w.heap.size + 2) ((w.alloc o).alloc (.cells #[v] t)) w') : w'.frozen? ⟨w.heap.size + 1, 0, none⟩ = false :=
  (h.frozen (p := ⟨w.heap.size + 1, 0, none⟩) (Nat.lt_succ_self _)).trans (frozen_second _ _ _ _)
theorem heap_third (w : World) (o1 o2 : Obj) (v : Value) (t : TypeId) : (((w.alloc o1).alloc o2).alloc (.cells #[v] t)).heap[w.heap.size + 2]? = some (.cells #[v] t (0, 0)) := by
  have := heap_alloc_new ((w.alloc o1).alloc o2) (.cells #[v] t)
  simpa using this
theorem below_three {w w' : World} {o1 o2 o3 : Obj} (h : Below (w.heap.size + 3) (((w.alloc o1).alloc o2).alloc o3) w') : Below w.heap.size w w' :=
  (((below_alloc w o1).alloc (by simp) o2).alloc (by simp; omega) o3).trans (h.mono (by omega))
theorem below_four {w w' : World} {o1 o2 o3 o4 : Obj} (h : Below (w.heap.size + 4) ((((w.alloc o1).alloc o2).alloc o3).alloc o4) w') : Below w.heap.size w w' :=
  ((((below_alloc w o1).alloc (by simp) o2).alloc (by simp; omega) o3).alloc (by simp; omega) o4).trans (h.mono (by omega))
theorem cell_mid (w : World) (o1 o3 : Obj) (v : Value) (t : TypeId) : (((w.alloc o1).alloc (.cells #[v] t)).alloc o3).cell? ⟨w.heap.size + 1, 0, none⟩ = some v :=
  ((below_alloc ((w.alloc o1).alloc (.cells #[v] t)) o3).cell (p := ⟨w.heap.size + 1, 0, none⟩) (by simp)).trans (cell_second w o1 v t)
theorem cell_mid2 (w : World) (o1 o3 o4 : Obj) (v : Value) (t : TypeId) : ((((w.alloc o1).alloc (.cells #[v] t)).alloc o3).alloc o4).cell? ⟨w.heap.size + 1, 0, none⟩ = some v :=
  ((below_alloc (((w.alloc o1).alloc (.cells #[v] t)).alloc o3) o4).cell (p := ⟨w.heap.size + 1, 0, none⟩) (by simp)).trans (cell_mid w o1 o3 v t)
theorem cell_mid3 (w : World) (o1 o2 o4 : Obj) (v : Value) (t : TypeId) : ((((w.alloc o1).alloc o2).alloc (.cells #[v] t)).alloc o4).cell? ⟨w.heap.size + 2, 0, none⟩ = some v :=
  ((below_alloc (((w.alloc o1).alloc o2).alloc (.cells #[v] t)) o4).cell (p := ⟨w.heap.size + 2, 0, none⟩) (by simp)).trans (cell_third w o1 o2 v t)
theorem below_up (w : World) (o1 o2 o3 o4 : Obj) : Below w.heap.size w ((((w.alloc o1).alloc o2).alloc o3).alloc o4) :=
  (((below_alloc w o1).alloc (by simp) o2).alloc (by simp; omega) o3).alloc (by simp; omega) o4
theorem diskR_three {w : World} {v : Value} {fs : List FileL} (h : DiskR w v fs) (o1 o2 o3 : Obj) : DiskR (((w.alloc o1).alloc o2).alloc o3) v fs :=
  ((h.below (below_alloc _ o1) (Nat.le_refl _)).below (below_alloc _ o2) (Nat.le_refl _)).below (below_alloc _ o3) (Nat.le_refl _)
theorem diskR_four {w : World} {v : Value} {fs : List FileL} (h : DiskR w v fs) (o1 o2 o3 o4 : Obj) : DiskR ((((w.alloc o1).alloc o2).alloc o3).alloc o4) v fs := (diskR_three h o1 o2 o3).below (below_alloc _ o4) (Nat.le_refl _)
theorem heap_fourth (w : World) (o1 o2 o3 : Obj) (v : Value) (t : TypeId) : ((((w.alloc o1).alloc o2).alloc o3).alloc (.cells #[v] t)).heap[w.heap.size + 3]? = some (.cells #[v] t (0, 0)) := by
  have := heap_alloc_new (((w.alloc o1).alloc o2).alloc o3) (.cells #[v] t)
  simpa using this

/-- What a file's numbers must be. -/
def GoodF (f : FileL) : Prop := (∀ x ∈ f.data, 0 ≤ x ∧ x ≤ 255) ∧ -9223372036854775808 ≤ f.synced ∧ f.synced ≤ 9223372036854775807 ∧ f.name.size ≤ maxLen ∧ f.data.length ≤ 140737488351232
theorem good_nil : Good [] := fun i hi => by simp at hi
theorem good_ch {fs : List FileL} {g : List FileL × Int} (_hg : Good fs) (h : Good g.1) : Good (chF fs g).1 := by
  unfold chF
  split
  · exact h
  · exact good_nil
theorem good_set {fs : List FileL} {k : Nat} {f : FileL} (hg : Good fs) (hf : k < fs.length → GoodF f) : Good (fs.set k f) := fun i hi => by
  rw [List.length_set] at hi
  by_cases e : i = k
  · subst e; rw [getD_set_eq hi]; exact hf hi
  · rw [getD_set_ne e]; exact hg i hi
end Go.Proofs.YthakibcfmbkpkaaDoor

namespace Go.Proofs.YthakibcfmbkpkaaDoor
set_option maxRecDepth 100000
open Go.ChangeShapes Go.WideShapes Go.ChangeAt Go.RowKit

/-- A row of files of the call's own from block rb on, whose data lies in rows of the call's own from block db on. -/
structure RowD (w : World) (rb db : Nat) (v : Value) (fs : List FileL) (vs : List Value) : Prop where
  len : vs.length = fs.length
  row : w.ownsRow rb 46 3 v fs.length (rows fs vs)
  data : ∀ i, i < fs.length → w.ownsRow db 5 1 (vs.getD i undef) (fs.getD i noF).data.length ((fs.getD i noF).data.map (Value.int .u8))

theorem RowD.nil (w : World) (rb db : Nat) : RowD w rb db (.slice none 0 0) [] [] := ⟨rfl, World.ownsRow_nil _ _ _ _, fun i hi => by simp at hi⟩
theorem RowD.below {w w' : World} {rb db B : Nat} {v : Value} {fs : List FileL} {vs : List Value} (h : RowD w rb db v fs vs) (hb : Below B w w') (hB : w.heap.size ≤ B) : RowD w' rb db v fs vs :=
  ⟨h.len, own_below h.row hb hB, fun i hi => own_below (h.data i hi) hb hB⟩
theorem RowD.drew {w : World} {rb db : Nat} {v : Value} {fs : List FileL} {vs : List Value} (h : RowD w rb db v fs vs) : RowD w.drew rb db v fs vs := ⟨h.len, h.row.drew, fun i hi => (h.data i hi).drew⟩
theorem RowD.alloc {w : World} {rb db : Nat} {v : Value} {fs : List FileL} {vs : List Value} (h : RowD w rb db v fs vs) (o : Obj) : RowD (w.alloc o) rb db v fs vs := h.below (below_alloc w o) (Nat.le_refl _)
theorem RowD.not {w : World} {rb db k : Nat} {v : Value} {fs : List FileL} {vs : List Value} (h : RowD w rb db v fs vs) (hk : k < rb) : some k ≠ v.ownBlock := fun e => by have := (h.row.lt k e.symm).1; omega
/-- A cell of another block is written that holds no byte. -/
theorem RowD.set {w : World} {rb db : Nat} {v x : Value} {fs : List FileL} {vs : List Value} {p : Nat} (h : RowD w rb db v fs vs) (hp : p < rb) (hd : ∀ i, i < fs.length → (vs.getD i undef).ownBlock = none ∨ (vs.getD i undef).ownBlock ≠ some p) : RowD (w.setCell ⟨p, 0, none⟩ x) rb db v fs vs :=
  ⟨h.len, ownsRow_setCell_below h.row hp x, fun i hi => own_other (h.data i hi) (hd i hi)⟩
theorem RowD.reads {w : World} {rb db : Nat} {v : Value} {fs : List FileL} {vs : List Value} (h : RowD w rb db v fs vs) : DiskR w v fs := by
  rcases h.row.2 with ⟨hv, h0⟩ | ⟨g, cap, cur, hv, hg, hgg, hc, hm, _⟩
  · have : fs = [] := List.eq_nil_of_length_eq_zero h0
    subst this hv
    exact ⟨none, 0, rfl, by simp, by simp [maxLen], fun _ => rfl, fun hn => by simp at hn⟩
  · subst hv
    have hcell : ∀ j u, (rows fs vs)[j]? = some u → w.cell? ⟨g, j, none⟩ = some u := fun j u hu => by
      have := h.row.cells rfl j u hu
      rwa [addr_add] at this
    refine ⟨_, cap, rfl, hc, hm, fun e => (by cases e), fun _ => ⟨g, 0, rfl, (Array.getElem?_eq_some_iff.1 hgg).1, fun i => vs.getD i undef, fun i hi => ?_⟩⟩
    obtain ⟨r1, r2, r3⟩ := rows_at i h.len hi
    rw [Nat.zero_add]
    exact ⟨hcell _ _ r1, hcell _ _ r2, hcell _ _ r3, reads_own (h.data i hi)⟩
theorem RowD.shape {w : World} {rb db : Nat} {v : Value} {fs : List FileL} {vs : List Value} (h : RowD w rb db v fs vs) : ∃ a c, v = .slice a fs.length c := by
  obtain ⟨a, c, e, _⟩ := h.reads; exact ⟨a, c, e⟩
theorem RowD.snoc {w w' : World} {rb db : Nat} {v v' dv : Value} {fs : List FileL} {vs : List Value} {f : FileL} (h : RowD w rb db v fs vs)
    (hrow : w'.ownsRow rb 46 3 v' (fs.length + 1) (rows fs vs ++ [.string f.name, dv, .int .i64 f.synced])) (hg : w.grownBy w' v.ownBlock)
    (hd : w.ownsRow db 5 1 dv f.data.length (f.data.map (Value.int .u8))) : RowD w' rb db v' (fs ++ [f]) (vs ++ [dv]) := by
  refine ⟨by simp [h.len], by rw [rows_snoc _ _ h.len]; simpa using hrow, ?_⟩
  intro i hi
  by_cases hlt : i < fs.length
  · rw [getD_app_left (by rw [h.len]; exact hlt), getD_app_left hlt]
    exact (h.data i hlt).kept hg (own_apart (h.data i hlt) h.row (by decide))
  · have e : i = fs.length := by simp at hi; omega
    subst e
    rw [getD_app_last]
    have e2 : (vs ++ [dv]).getD fs.length undef = dv := by rw [← h.len]; exact getD_app_last
    rw [e2]
    exact hd.kept hg (own_apart hd h.row (by decide))
/-- What an append of one file to such a row comes to. -/
theorem run_snoc {w : World} {rb db : Nat} {v : Value} {fs : List FileL} {vs : List Value} (h : RowD w rb db v fs vs) (f : FileL) {da : Option Addr} {dn dc : Nat} (hd : w.ownsRow db 5 1 (.slice da dn dc) f.data.length (f.data.map (Value.int .u8))) (hl : (fs.length + 1) * 48 ≤ 140737488355328) (hrb : rb ≤ w.heap.size) :
    ∃ g c w', AppOk Tryd.prog #[22, 22] 22 #[v, .slice (some ⟨w.heap.size, 0, none⟩) 1 1] (w.alloc (.cells #[.string f.name, .slice da dn dc, .int .i64 f.synced] 46)).drew ∧
      appV Tryd.prog #[22, 22] 22 #[v, .slice (some ⟨w.heap.size, 0, none⟩) 1 1] (w.alloc (.cells #[.string f.name, .slice da dn dc, .int .i64 f.synced] 46)).drew = .slice (some ⟨g, 0, none⟩) (fs.length + 1) c ∧
      appW Tryd.prog #[22, 22] 22 #[v, .slice (some ⟨w.heap.size, 0, none⟩) 1 1] (w.alloc (.cells #[.string f.name, .slice da dn dc, .int .i64 f.synced] 46)).drew = w' ∧
      RowD w' rb db (.slice (some ⟨g, 0, none⟩) (fs.length + 1) c) (fs ++ [f]) (vs ++ [.slice da dn dc]) ∧ Below rb w w' ∧ w.heap.size ≤ w'.heap.size := by
  obtain ⟨i0, hi, hz0, hz1, hz2⟩ := info_parts Tryd.infoF
  obtain ⟨g, c, w', hrun, hown, hgrow, _, _⟩ := run_append_lies (P := Tryd.prog) (w.alloc (.cells #[.string f.name, .slice da dn dc, .int .i64 f.synced] 46)).drew 22 22 rb 46 i0 _ 3 48 Tryd.underlying22 hi hz0 hz1 hz2 rfl (by omega) v _ _ ((h.row.alloc _).drew)
    ⟨w.heap.size, 0, none⟩ 1 1 [.string f.name, .slice da dn dc, .int .i64 f.synced] (by rfl) (World.news_of_block (cs := #[.string f.name, .slice da dn dc, .int .i64 f.synced]) (t := 46) (fr := (0, 0)) (heap_alloc_new w _)) (file_oneCell f rfl)
    (by omega) (by unfold maxLen; omega) (by omega) (by simp; omega) _ rfl
  obtain ⟨a1, a2, a3⟩ := appOk_of hrun
  refine ⟨g, c, w', a1, a2, a3, (h.alloc _).drew.snoc hown hgrow (hd.alloc _).drew, ?_, ?_⟩
  · exact (((Below.refl rb w).alloc hrb _).drew).grown hgrow (by simp; omega) (fun j hj => (h.row.lt j hj).1)
  · have := hgrow.size; simp at this; omega

/-- 'append(s, f)' of one file to such a row, as a law for the walk. -/
theorem wpList_append_file {w : World} {ops : Array Oper} {rest : List Oper} {o : Oper} {a : Act} {Q : Exit → Act → World → Prop} (hgd : o.guard = none) (s x : Operand)
    (ho : o.op = .call { callee := .builtin .append, args := #[s, x], argTypes := #[22, 22] })
    (rb db : Nat) (v : Value) (fs : List FileL) (vs : List Value) (hs : a.eval s = v) (h : RowD w rb db v fs vs) (f : FileL) (da : Option Addr) (dn dc : Nat) (hd : w.ownsRow db 5 1 (.slice da dn dc) f.data.length (f.data.map (Value.int .u8)))
    (B : Nat) (hx : a.eval x = .slice (some ⟨B, 0, none⟩) 1 1) (hblk : w.heap[B]? = some (.cells #[.string f.name, .slice da dn dc, .int .i64 f.synced] 46 (0, 0))) (hl : (fs.length + 1) * 48 ≤ 140737488355328) (hrb : rb ≤ w.heap.size)
    (hk : ∀ g c w', RowD w' rb db (.slice (some ⟨g, 0, none⟩) (fs.length + 1) c) (fs ++ [f]) (vs ++ [.slice da dn dc]) → Below rb w w' → wpList Tryd.prog ops Q rest (a.put o.dst (.slice (some ⟨g, 0, none⟩) (fs.length + 1) c)) w') :
    wpList Tryd.prog ops Q (o :: rest) a w := by
  obtain ⟨i0, hi, hz0, hz1, hz2⟩ := info_parts Tryd.infoF
  refine wpList_append_lies w hgd s x 22 ho rb 46 i0 _ 3 48 Tryd.underlying22 hi hz0 hz1 hz2 rfl (by omega) v _ _ hs h.row ⟨B, 0, none⟩ 1 1 [.string f.name, .slice da dn dc, .int .i64 f.synced] hx rfl (World.news_of_block (cs := #[.string f.name, .slice da dn dc, .int .i64 f.synced]) hblk) (file_oneCell f rfl) (by omega) (by unfold maxLen; omega) (by omega) hrb _ rfl ?_
  intro g c w' hown hgrow _ _
  exact hk g c w' (h.snoc hown hgrow hd) ((Below.refl rb w).grown hgrow hrb (fun j hj => (h.row.lt j hj).1))
end Go.Proofs.YthakibcfmbkpkaaDoor
