/-
  For every disk, name and bytes disk.Append answers what P3.2 says and leaves its arguments alone (the law DiskAppends returns true, and its arguments read as before); no condition.
-/
import Derived.Test.YtdhaccljidhdcaaAppendedWalk
import Derived.Test.YtdhaccljidhdcaaOctetsB
import Derived.Test.YtdhaccljidhdcaaLawSame
import Derived.Test.YtdhaccljidhdcaaDiskOpen
import Derived.WalkKit
import Derived.ProofKit
import Derived.OpenShut
import Derived.ShutString
import Derived.SizedLaws
import Derived.ChangeOld
import Derived.Below
import Derived.Deep.RegionHeld3
namespace Go.Proofs.Ytdhaccljidhdcaa.diskAppends
open Go.ChangeShapes Go.WideShapes Go.ChangeAt Go.RowKit

theorem own : ownKnob Try.prog.godebug = none := by kernel_rfl
theorem laidOut : laidOutB Try.prog = true := by kernel_rfl

set_option maxHeartbeats 1000000 in
set_option maxRecDepth 100000 in
theorem walk (v0 : Value) (fs0 : List FileL) (s1 : ByteArray) (v2 : Value) (xs2 : List Int) (w : World) (hD0 : DiskR w v0 fs0) (hG0 : Good fs0) (hL0 : fs0.length * 48 ≤ 140737488351232) (hS1 : s1.size ≤ maxLen) (hR2 : Reads .u8 w v2 xs2) (hB2 : ∀ x ∈ xs2, 0 ≤ x ∧ x ≤ 255) (hN2 : xs2.length ≤ 140737488351232) :
    Calls Try.prog 3 #[.agg #[v0], .string s1, v2] w fun e w' => e = .returned (.bool true) ∧ Below w.heap.size w w' := by
  have _u := hD0
  clear _u
  have _u := hG0
  clear _u
  have _u := hL0
  clear _u
  have _u := hS1
  clear _u
  have _u := hR2
  clear _u
  have _u := hB2
  clear _u
  have _u := hN2
  clear _u
  have HD : Hid (DiskR w v0 fs0) := hD0
  have HG : Hid (Good fs0) := hG0
  have HGR : Hid (Good (chF fs0 (appendF fs0 s1 xs2)).1) := good_ch hG0 (good_append hG0 hS1 hB2)
  obtain ⟨a, cap, rfl, _, _, _, _⟩ := hD0
  have HR : Hid (Reads .u8 w v2 xs2) := hR2
  have HB : Hid (∀ x ∈ xs2, 0 ≤ x ∧ x ≤ 255) := hB2
  obtain ⟨la, lc, rfl, _, _, _, _⟩ := hR2
  clear hG0 hB2
  go_enter Try.func3, Try.ntmps3
  go_wp2_with fail
  refine (disks_any _ fs0 _ ?_ HG.out hL0).mono ?_
  · exact HD.out.below (below_alloc _ _) (Nat.le_refl _)
  rintro e w1 ⟨c, rfl, hc, hb1⟩
  have hb1' : Below (w.heap.size + 1) (w.alloc (.cells #[.slice a fs0.length cap] 24)) w1 := by simpa using hb1
  have r1 := box_cell hb1'
  have C1 : Hid (DiskR w1 c fs0) := hc
  have B1 : Hid (Below w.heap.size w w1) := box_below hb1'
  have hs1 : w.heap.size + 1 ≤ w1.heap.size := by have := hb1'.size; simpa using this
  obtain ⟨ca, cc, rfl, _, _, _, _⟩ := hc
  clear hb1 hb1'
  go_wp2_with fail
  have hs0 : w.heap.size < w1.heap.size := by omega
  have HR1 : Hid (∀ W, Below w1.heap.size w1 W → Reads .u8 W (.slice la xs2.length lc) xs2) := fun W hW => HR.out.below (B1.out.trans (hW.mono (by omega))) (Nat.le_refl _)
  have hN3 : xs2.length ≤ 140737488355328 := by omega
  go_region_held3 (fun W => W.cell? ⟨w1.heap.size, 0, none⟩ = some (.slice ca fs0.length cc)) (first | go_keep | assumption | (rw [World.cell?_setCell_other _ _ _ _ (fun e => by have h9 := congrArg Addr.block e; simp at h9; omega)]; assumption)) (first
    | (go_at_call 11; refine (octets_any _ xs2 _ (HR1.out _ ?_) hN3).mono ?_; (first | exact (below_alloc _ _).drew | exact ((below_alloc _ _).drew).alloc (by simp) _); rintro e w6 ⟨v6, rfl, hown6, hbel6⟩; have hb6 : Below w1.heap.size w1 w6 := by (first | exact ((below_alloc _ _).drew).trans (hbel6.mono (by simp)) | exact (((below_alloc _ _).drew).alloc (by simp) _).trans (hbel6.mono (by simp; omega)))
       have s6 : w6.cell? ⟨w1.heap.size, 0, none⟩ = some (.slice ca fs0.length cc) := by
         refine (hbel6.cell (p := ⟨w1.heap.size, 0, none⟩) (show w1.heap.size < _ by simp; try omega)).trans ?_
         (first | exact cell_new0 _ _ _ | exact ((below_alloc _ _).cell (p := ⟨w1.heap.size, 0, none⟩) (by simp)).trans (cell_new0 _ _ _))
       have hl6 : w1.heap.size < w6.heap.size := by have := hbel6.size; simp at this; omega
       try (have m6 : w6.cell? ⟨w1.heap.size + 1, 0, none⟩ = some (.slice none 0 0) := (hbel6.cell (p := ⟨w1.heap.size + 1, 0, none⟩) (by simp)).trans (cell_second _ _ _ _))
       try (have m6' : w6.frozen? ⟨w1.heap.size + 1, 0, none⟩ = false := (hbel6.frozen (p := ⟨w1.heap.size + 1, 0, none⟩) (by simp)).trans (frozen_second _ _ _ _))
       try (have M6 : Hid (w6.heap[w1.heap.size + 1]? = some (.cells #[.slice none 0 0] 24 (0, 0))) := (hbel6.block _ (by simp)).trans (heap_second _ _ _ _))
       have O6 : Hid (∃ B, w6.ownsRow B 5 1 v6 xs2.length (xs2.map (Value.int .u8))) := ⟨_, hown6⟩
       have HB6 : Hid (Below w1.heap.size w1 w6) := hb6
       clear hown6 hbel6 hb6
       obtain ⟨xa, xn, xc, rfl⟩ : ∃ a n c, v6 = .slice a n c := by obtain ⟨_, ho⟩ := O6.out; obtain ⟨a, c, h, _⟩ := reads_own ho; exact ⟨_, _, _, h⟩)
    | (go_at_call 10; refine (diskAppend_any _ fs0 s1 _ xs2 _ ?_ HG.out hS1 ?_ HB.out).mono ?_
       (first | exact C1.out.below HB6.out (Nat.le_refl _) | exact (C1.out.below HB6.out (Nat.le_refl _)).below (below_alloc _ _) (Nat.le_refl _))
       (obtain ⟨_, ho⟩ := O6.out; (first | exact reads_own ho | exact reads_own (ho.alloc _)))
       rintro e w2 ⟨v2, rfl, hr2, hb2⟩
       have hb26 : Below w6.heap.size w6 w2 := by (first | exact hb2 | exact (below_alloc _ _).trans (hb2.mono (by simp)))
       have s2 : w2.cell? ⟨w1.heap.size, 0, none⟩ = some (.slice ca fs0.length cc) := (hb26.cell (p := ⟨w1.heap.size, 0, none⟩) hl6).trans s6
       try (have m2 : w2.cell? ⟨w1.heap.size + 1, 0, none⟩ = some (.slice none 0 0) := (hb26.cell (p := ⟨w1.heap.size + 1, 0, none⟩) (World.block_lt_of_cell? w6 _ m6)).trans m6)
       try (have m2' : w2.frozen? ⟨w1.heap.size + 1, 0, none⟩ = false := (hb26.frozen (p := ⟨w1.heap.size + 1, 0, none⟩) (World.block_lt_of_cell? w6 _ m6)).trans m6')
       try (have n2 : w2.cell? ⟨w6.heap.size, 0, none⟩ = some (.slice none 0 0) := (hb2.cell (p := ⟨w6.heap.size, 0, none⟩) (by simp)).trans (cell_new0 _ _ _))
       try (have n2' : w2.frozen? ⟨w6.heap.size, 0, none⟩ = false := (hb2.frozen (p := ⟨w6.heap.size, 0, none⟩) (by simp)).trans (frozen_new0 _ _ _))
       try (have M2 : Hid (w2.heap[w1.heap.size + 1]? = some (.cells #[.slice none 0 0] 24 (0, 0))) := (hb26.block _ (World.block_lt_of_cell? w6 _ m6)).trans M6.out)
       try (have N2 : Hid (w2.heap[w6.heap.size]? = some (.cells #[.slice none 0 0] 24 (0, 0))) := (hb2.block _ (by simp)).trans (heap_alloc_new _ _))
       have R2 : Hid (DiskR w2 v2 (chF fs0 (appendF fs0 s1 xs2)).1) := hr2
       have HB26 : Hid (Below w6.heap.size w6 w2) := hb26
       have hl2 := hb26.size
       obtain ⟨va, vc, rfl, _, _, _, _⟩ := hr2
       clear hb2 hb26))
  · have BW1 : Hid (Below w1.heap.size w1 (w2.alloc (.cells #[(.slice va (chF fs0 (appendF fs0 s1 xs2)).1.length vc)] 24))) := (HB6.out.trans (HB26.out.mono (by omega))).alloc (by omega) _
    have sP : ((w2.alloc (.cells #[(.slice va (chF fs0 (appendF fs0 s1 xs2)).1.length vc)] 24))).cell? ⟨w2.heap.size, 0, none⟩ = some (.slice va (chF fs0 (appendF fs0 s1 xs2)).1.length vc) := cell_new0 _ _ _
    have sC : ((w2.alloc (.cells #[(.slice va (chF fs0 (appendF fs0 s1 xs2)).1.length vc)] 24))).cell? ⟨w1.heap.size, 0, none⟩ = some (.slice ca fs0.length cc) := ((below_alloc w2 _).cell (p := ⟨w1.heap.size, 0, none⟩) (show w1.heap.size < w2.heap.size by omega)).trans s2
    have sD : ((w2.alloc (.cells #[(.slice va (chF fs0 (appendF fs0 s1 xs2)).1.length vc)] 24))).cell? ⟨w.heap.size, 0, none⟩ = some (.slice a fs0.length cap) := (BW1.out.cell (p := ⟨w.heap.size, 0, none⟩) hs0).trans r1
    have RW : Hid (DiskR ((w2.alloc (.cells #[(.slice va (chF fs0 (appendF fs0 s1 xs2)).1.length vc)] 24))) (.slice va (chF fs0 (appendF fs0 s1 xs2)).1.length vc) (chF fs0 (appendF fs0 s1 xs2)).1) := R2.out.below (below_alloc _ _) (Nat.le_refl _)
    have CW : Hid (DiskR ((w2.alloc (.cells #[(.slice va (chF fs0 (appendF fs0 s1 xs2)).1.length vc)] 24))) (.slice ca fs0.length cc) fs0) := C1.out.below BW1.out (Nat.le_refl _)
    have LW : Hid (Reads .u8 ((w2.alloc (.cells #[(.slice va (chF fs0 (appendF fs0 s1 xs2)).1.length vc)] 24))) (.slice la xs2.length lc) xs2) := HR1.out _ BW1.out
    have BW : Hid (Below w.heap.size w ((w2.alloc (.cells #[(.slice va (chF fs0 (appendF fs0 s1 xs2)).1.length vc)] 24)))) := B1.out.trans (BW1.out.mono (by omega))
    have DW : Hid (DiskR ((w2.alloc (.cells #[(.slice va (chF fs0 (appendF fs0 s1 xs2)).1.length vc)] 24))) (.slice a fs0.length cap) fs0) := HD.out.below BW.out (Nat.le_refl _)
    have hpW : w2.heap.size < ((w2.alloc (.cells #[(.slice va (chF fs0 (appendF fs0 s1 xs2)).1.length vc)] 24))).heap.size := World.block_lt_of_cell? _ _ sP
    have hcW : w1.heap.size < ((w2.alloc (.cells #[(.slice va (chF fs0 (appendF fs0 s1 xs2)).1.length vc)] 24))).heap.size := World.block_lt_of_cell? _ _ sC
    clear R2 C1 B1 HB6 HB26 O6 BW1 s6 s2 r1 hl6 hl2 
    generalize (w2.alloc (.cells #[(.slice va (chF fs0 (appendF fs0 s1 xs2)).1.length vc)] 24)) = W2 at *
    generalize w2.heap.size = p at *
    go_wp2_with fail
    refine (appended_any _ fs0 s1 _ xs2 _ DW.out HG.out hL0 hS1 LW.out).mono ?_
    rintro e w3 ⟨v3, rfl, hr3, hb3⟩
    have s3 : w3.cell? ⟨p, 0, none⟩ = some (.slice va (chF fs0 (appendF fs0 s1 xs2)).1.length vc) := (hb3.cell (p := ⟨p, 0, none⟩) hpW).trans sP
    have t3 : w3.cell? ⟨w.heap.size, 0, none⟩ = some (.slice a fs0.length cap) := (hb3.cell (p := ⟨w.heap.size, 0, none⟩) (show w.heap.size < W2.heap.size by omega)).trans sD
    have r3 : w3.cell? ⟨w1.heap.size, 0, none⟩ = some (.slice ca fs0.length cc) := (hb3.cell (p := ⟨w1.heap.size, 0, none⟩) hcW).trans sC
    have hs3 : W2.heap.size ≤ w3.heap.size := hb3.size
    have R23 : Hid (DiskR w3 (.slice va (chF fs0 (appendF fs0 s1 xs2)).1.length vc) (chF fs0 (appendF fs0 s1 xs2)).1) := RW.out.below hb3 (Nat.le_refl _)
    have R3 : Hid (DiskR w3 v3 (chF fs0 (appendF fs0 s1 xs2)).1) := hr3
    have C3 : Hid (DiskR w3 (.slice ca fs0.length cc) fs0) := CW.out.below hb3 (Nat.le_refl _)
    have D3 : Hid (DiskR w3 (.slice a fs0.length cap) fs0) := DW.out.below hb3 (Nat.le_refl _)
    have B3 : Hid (Below w.heap.size w w3) := BW.out.trans (hb3.mono (by omega))
    obtain ⟨ua, uc, rfl, _, _, _, _⟩ := hr3
    clear hb3 RW CW DW LW BW
    generalize chF fs0 (appendF fs0 s1 xs2) = q at *
    obtain ⟨q1, q2⟩ := q
    have hq : (q2 == q2) = true := by simp
    have s3' : ∀ o, (w3.alloc o).cell? ⟨p, 0, none⟩ = some (.slice va q1.length vc) := fun o => ((below_alloc w3 o).cell (p := ⟨p, 0, none⟩) (show p < w3.heap.size by omega)).trans s3
    go_wp2_with fail
    refine (sameDisk_yes _ _ q1 _ ?_ ?_ HGR.out).mono ?_
    · exact R23.out.below (below_alloc _ _) (Nat.le_refl _)
    · exact R3.out.below (below_alloc _ _) (Nat.le_refl _)
    rintro e w4 ⟨rfl, hb4⟩
    have B34 : Hid (Below w3.heap.size w3 w4) := (below_alloc w3 _).trans (hb4.mono (by simp))
    have t4 : w4.cell? ⟨w.heap.size, 0, none⟩ = some (.slice a fs0.length cap) := (B34.out.cell (p := ⟨w.heap.size, 0, none⟩) (show w.heap.size < w3.heap.size by omega)).trans t3
    have r4 : w4.cell? ⟨w1.heap.size, 0, none⟩ = some (.slice ca fs0.length cc) := (B34.out.cell (p := ⟨w1.heap.size, 0, none⟩) (show w1.heap.size < w3.heap.size by omega)).trans r3
    have B4 : Hid (Below w.heap.size w w4) := B3.out.trans (B34.out.mono (by omega))
    have hs4 := B34.out.size
    clear hb4
    go_wp2_with fail
    refine (sameDisk_yes _ _ fs0 _ (C3.out.below B34.out (Nat.le_refl _)) (D3.out.below B34.out (Nat.le_refl _)) HG.out).mono ?_
    rintro e w5 ⟨rfl, hb5⟩
    have B5 : Hid (Below w.heap.size w w5) := B4.out.trans (hb5.mono (by omega))
    clear hb5
    go_wp2_with fail
    go_ret
    exact ⟨ret_bool (by simp), B5.out⟩
  · have BW1 : Hid (Below w1.heap.size w1 (w2.setCell ⟨w6.heap.size, 0, none⟩ (.slice va (chF fs0 (appendF fs0 s1 xs2)).1.length vc))) := (HB6.out.trans (HB26.out.mono (by omega))).setCell (p := ⟨w6.heap.size, 0, none⟩) (show w1.heap.size ≤ w6.heap.size by omega) _
    have sP : ((w2.setCell ⟨w6.heap.size, 0, none⟩ (.slice va (chF fs0 (appendF fs0 s1 xs2)).1.length vc))).cell? ⟨w6.heap.size, 0, none⟩ = some (.slice va (chF fs0 (appendF fs0 s1 xs2)).1.length vc) := World.cell?_setCell_same _ _ _ n2
    have sC : ((w2.setCell ⟨w6.heap.size, 0, none⟩ (.slice va (chF fs0 (appendF fs0 s1 xs2)).1.length vc))).cell? ⟨w1.heap.size, 0, none⟩ = some (.slice ca fs0.length cc) := by rw [World.cell?_setCell_other _ _ _ _ (fun e => by have h9 := congrArg Addr.block e; simp at h9 <;> omega)]; exact s2
    have sD : ((w2.setCell ⟨w6.heap.size, 0, none⟩ (.slice va (chF fs0 (appendF fs0 s1 xs2)).1.length vc))).cell? ⟨w.heap.size, 0, none⟩ = some (.slice a fs0.length cap) := (BW1.out.cell (p := ⟨w.heap.size, 0, none⟩) hs0).trans r1
    have RW : Hid (DiskR ((w2.setCell ⟨w6.heap.size, 0, none⟩ (.slice va (chF fs0 (appendF fs0 s1 xs2)).1.length vc))) (.slice va (chF fs0 (appendF fs0 s1 xs2)).1.length vc) (chF fs0 (appendF fs0 s1 xs2)).1) := R2.out.setBox N2.out
    have CW : Hid (DiskR ((w2.setCell ⟨w6.heap.size, 0, none⟩ (.slice va (chF fs0 (appendF fs0 s1 xs2)).1.length vc))) (.slice ca fs0.length cc) fs0) := C1.out.below BW1.out (Nat.le_refl _)
    have LW : Hid (Reads .u8 ((w2.setCell ⟨w6.heap.size, 0, none⟩ (.slice va (chF fs0 (appendF fs0 s1 xs2)).1.length vc))) (.slice la xs2.length lc) xs2) := HR1.out _ BW1.out
    have BW : Hid (Below w.heap.size w ((w2.setCell ⟨w6.heap.size, 0, none⟩ (.slice va (chF fs0 (appendF fs0 s1 xs2)).1.length vc)))) := B1.out.trans (BW1.out.mono (by omega))
    have DW : Hid (DiskR ((w2.setCell ⟨w6.heap.size, 0, none⟩ (.slice va (chF fs0 (appendF fs0 s1 xs2)).1.length vc))) (.slice a fs0.length cap) fs0) := HD.out.below BW.out (Nat.le_refl _)
    have hpW : w6.heap.size < ((w2.setCell ⟨w6.heap.size, 0, none⟩ (.slice va (chF fs0 (appendF fs0 s1 xs2)).1.length vc))).heap.size := World.block_lt_of_cell? _ _ sP
    have hcW : w1.heap.size < ((w2.setCell ⟨w6.heap.size, 0, none⟩ (.slice va (chF fs0 (appendF fs0 s1 xs2)).1.length vc))).heap.size := World.block_lt_of_cell? _ _ sC
    clear R2 C1 B1 HB6 HB26 O6 BW1 s6 s2 r1 hl6 hl2 n2 n2' N2
    generalize (w2.setCell ⟨w6.heap.size, 0, none⟩ (.slice va (chF fs0 (appendF fs0 s1 xs2)).1.length vc)) = W2 at *
    generalize w6.heap.size = p at *
    go_wp2_with fail
    refine (appended_any _ fs0 s1 _ xs2 _ DW.out HG.out hL0 hS1 LW.out).mono ?_
    rintro e w3 ⟨v3, rfl, hr3, hb3⟩
    have s3 : w3.cell? ⟨p, 0, none⟩ = some (.slice va (chF fs0 (appendF fs0 s1 xs2)).1.length vc) := (hb3.cell (p := ⟨p, 0, none⟩) hpW).trans sP
    have t3 : w3.cell? ⟨w.heap.size, 0, none⟩ = some (.slice a fs0.length cap) := (hb3.cell (p := ⟨w.heap.size, 0, none⟩) (show w.heap.size < W2.heap.size by omega)).trans sD
    have r3 : w3.cell? ⟨w1.heap.size, 0, none⟩ = some (.slice ca fs0.length cc) := (hb3.cell (p := ⟨w1.heap.size, 0, none⟩) hcW).trans sC
    have hs3 : W2.heap.size ≤ w3.heap.size := hb3.size
    have R23 : Hid (DiskR w3 (.slice va (chF fs0 (appendF fs0 s1 xs2)).1.length vc) (chF fs0 (appendF fs0 s1 xs2)).1) := RW.out.below hb3 (Nat.le_refl _)
    have R3 : Hid (DiskR w3 v3 (chF fs0 (appendF fs0 s1 xs2)).1) := hr3
    have C3 : Hid (DiskR w3 (.slice ca fs0.length cc) fs0) := CW.out.below hb3 (Nat.le_refl _)
    have D3 : Hid (DiskR w3 (.slice a fs0.length cap) fs0) := DW.out.below hb3 (Nat.le_refl _)
    have B3 : Hid (Below w.heap.size w w3) := BW.out.trans (hb3.mono (by omega))
    obtain ⟨ua, uc, rfl, _, _, _, _⟩ := hr3
    clear hb3 RW CW DW LW BW
    generalize chF fs0 (appendF fs0 s1 xs2) = q at *
    obtain ⟨q1, q2⟩ := q
    have hq : (q2 == q2) = true := by simp
    have s3' : ∀ o, (w3.alloc o).cell? ⟨p, 0, none⟩ = some (.slice va q1.length vc) := fun o => ((below_alloc w3 o).cell (p := ⟨p, 0, none⟩) (show p < w3.heap.size by omega)).trans s3
    go_wp2_with fail
    refine (sameDisk_yes _ _ q1 _ ?_ ?_ HGR.out).mono ?_
    · exact R23.out.below (below_alloc _ _) (Nat.le_refl _)
    · exact R3.out.below (below_alloc _ _) (Nat.le_refl _)
    rintro e w4 ⟨rfl, hb4⟩
    have B34 : Hid (Below w3.heap.size w3 w4) := (below_alloc w3 _).trans (hb4.mono (by simp))
    have t4 : w4.cell? ⟨w.heap.size, 0, none⟩ = some (.slice a fs0.length cap) := (B34.out.cell (p := ⟨w.heap.size, 0, none⟩) (show w.heap.size < w3.heap.size by omega)).trans t3
    have r4 : w4.cell? ⟨w1.heap.size, 0, none⟩ = some (.slice ca fs0.length cc) := (B34.out.cell (p := ⟨w1.heap.size, 0, none⟩) (show w1.heap.size < w3.heap.size by omega)).trans r3
    have B4 : Hid (Below w.heap.size w w4) := B3.out.trans (B34.out.mono (by omega))
    have hs4 := B34.out.size
    clear hb4
    go_wp2_with fail
    refine (sameDisk_yes _ _ fs0 _ (C3.out.below B34.out (Nat.le_refl _)) (D3.out.below B34.out (Nat.le_refl _)) HG.out).mono ?_
    rintro e w5 ⟨rfl, hb5⟩
    have B5 : Hid (Below w.heap.size w w5) := B4.out.trans (hb5.mono (by omega))
    clear hb5
    go_wp2_with fail
    go_ret
    exact ⟨ret_bool (by simp), B5.out⟩
  · have BW1 : Hid (Below w1.heap.size w1 (w2.setCell ⟨w1.heap.size + 1, 0, none⟩ (.slice va (chF fs0 (appendF fs0 s1 xs2)).1.length vc))) := (HB6.out.trans (HB26.out.mono (by omega))).setCell (p := ⟨w1.heap.size + 1, 0, none⟩) (show w1.heap.size ≤ w1.heap.size + 1 by omega) _
    have sP : ((w2.setCell ⟨w1.heap.size + 1, 0, none⟩ (.slice va (chF fs0 (appendF fs0 s1 xs2)).1.length vc))).cell? ⟨w1.heap.size + 1, 0, none⟩ = some (.slice va (chF fs0 (appendF fs0 s1 xs2)).1.length vc) := World.cell?_setCell_same _ _ _ m2
    have sC : ((w2.setCell ⟨w1.heap.size + 1, 0, none⟩ (.slice va (chF fs0 (appendF fs0 s1 xs2)).1.length vc))).cell? ⟨w1.heap.size, 0, none⟩ = some (.slice ca fs0.length cc) := by rw [World.cell?_setCell_other _ _ _ _ (fun e => by have h9 := congrArg Addr.block e; simp at h9 <;> omega)]; exact s2
    have sD : ((w2.setCell ⟨w1.heap.size + 1, 0, none⟩ (.slice va (chF fs0 (appendF fs0 s1 xs2)).1.length vc))).cell? ⟨w.heap.size, 0, none⟩ = some (.slice a fs0.length cap) := (BW1.out.cell (p := ⟨w.heap.size, 0, none⟩) hs0).trans r1
    have RW : Hid (DiskR ((w2.setCell ⟨w1.heap.size + 1, 0, none⟩ (.slice va (chF fs0 (appendF fs0 s1 xs2)).1.length vc))) (.slice va (chF fs0 (appendF fs0 s1 xs2)).1.length vc) (chF fs0 (appendF fs0 s1 xs2)).1) := R2.out.setBox M2.out
    have CW : Hid (DiskR ((w2.setCell ⟨w1.heap.size + 1, 0, none⟩ (.slice va (chF fs0 (appendF fs0 s1 xs2)).1.length vc))) (.slice ca fs0.length cc) fs0) := C1.out.below BW1.out (Nat.le_refl _)
    have LW : Hid (Reads .u8 ((w2.setCell ⟨w1.heap.size + 1, 0, none⟩ (.slice va (chF fs0 (appendF fs0 s1 xs2)).1.length vc))) (.slice la xs2.length lc) xs2) := HR1.out _ BW1.out
    have BW : Hid (Below w.heap.size w ((w2.setCell ⟨w1.heap.size + 1, 0, none⟩ (.slice va (chF fs0 (appendF fs0 s1 xs2)).1.length vc)))) := B1.out.trans (BW1.out.mono (by omega))
    have DW : Hid (DiskR ((w2.setCell ⟨w1.heap.size + 1, 0, none⟩ (.slice va (chF fs0 (appendF fs0 s1 xs2)).1.length vc))) (.slice a fs0.length cap) fs0) := HD.out.below BW.out (Nat.le_refl _)
    have hpW : w1.heap.size + 1 < ((w2.setCell ⟨w1.heap.size + 1, 0, none⟩ (.slice va (chF fs0 (appendF fs0 s1 xs2)).1.length vc))).heap.size := World.block_lt_of_cell? _ _ sP
    have hcW : w1.heap.size < ((w2.setCell ⟨w1.heap.size + 1, 0, none⟩ (.slice va (chF fs0 (appendF fs0 s1 xs2)).1.length vc))).heap.size := World.block_lt_of_cell? _ _ sC
    clear R2 C1 B1 HB6 HB26 O6 BW1 s6 s2 r1 hl6 hl2 m6 m6' m2 m2' M6 M2
    generalize (w2.setCell ⟨w1.heap.size + 1, 0, none⟩ (.slice va (chF fs0 (appendF fs0 s1 xs2)).1.length vc)) = W2 at *
    generalize w1.heap.size + 1 = p at *
    go_wp2_with fail
    refine (appended_any _ fs0 s1 _ xs2 _ DW.out HG.out hL0 hS1 LW.out).mono ?_
    rintro e w3 ⟨v3, rfl, hr3, hb3⟩
    have s3 : w3.cell? ⟨p, 0, none⟩ = some (.slice va (chF fs0 (appendF fs0 s1 xs2)).1.length vc) := (hb3.cell (p := ⟨p, 0, none⟩) hpW).trans sP
    have t3 : w3.cell? ⟨w.heap.size, 0, none⟩ = some (.slice a fs0.length cap) := (hb3.cell (p := ⟨w.heap.size, 0, none⟩) (show w.heap.size < W2.heap.size by omega)).trans sD
    have r3 : w3.cell? ⟨w1.heap.size, 0, none⟩ = some (.slice ca fs0.length cc) := (hb3.cell (p := ⟨w1.heap.size, 0, none⟩) hcW).trans sC
    have hs3 : W2.heap.size ≤ w3.heap.size := hb3.size
    have R23 : Hid (DiskR w3 (.slice va (chF fs0 (appendF fs0 s1 xs2)).1.length vc) (chF fs0 (appendF fs0 s1 xs2)).1) := RW.out.below hb3 (Nat.le_refl _)
    have R3 : Hid (DiskR w3 v3 (chF fs0 (appendF fs0 s1 xs2)).1) := hr3
    have C3 : Hid (DiskR w3 (.slice ca fs0.length cc) fs0) := CW.out.below hb3 (Nat.le_refl _)
    have D3 : Hid (DiskR w3 (.slice a fs0.length cap) fs0) := DW.out.below hb3 (Nat.le_refl _)
    have B3 : Hid (Below w.heap.size w w3) := BW.out.trans (hb3.mono (by omega))
    obtain ⟨ua, uc, rfl, _, _, _, _⟩ := hr3
    clear hb3 RW CW DW LW BW
    generalize chF fs0 (appendF fs0 s1 xs2) = q at *
    obtain ⟨q1, q2⟩ := q
    have hq : (q2 == q2) = true := by simp
    have s3' : ∀ o, (w3.alloc o).cell? ⟨p, 0, none⟩ = some (.slice va q1.length vc) := fun o => ((below_alloc w3 o).cell (p := ⟨p, 0, none⟩) (show p < w3.heap.size by omega)).trans s3
    go_wp2_with fail
    refine (sameDisk_yes _ _ q1 _ ?_ ?_ HGR.out).mono ?_
    · exact R23.out.below (below_alloc _ _) (Nat.le_refl _)
    · exact R3.out.below (below_alloc _ _) (Nat.le_refl _)
    rintro e w4 ⟨rfl, hb4⟩
    have B34 : Hid (Below w3.heap.size w3 w4) := (below_alloc w3 _).trans (hb4.mono (by simp))
    have t4 : w4.cell? ⟨w.heap.size, 0, none⟩ = some (.slice a fs0.length cap) := (B34.out.cell (p := ⟨w.heap.size, 0, none⟩) (show w.heap.size < w3.heap.size by omega)).trans t3
    have r4 : w4.cell? ⟨w1.heap.size, 0, none⟩ = some (.slice ca fs0.length cc) := (B34.out.cell (p := ⟨w1.heap.size, 0, none⟩) (show w1.heap.size < w3.heap.size by omega)).trans r3
    have B4 : Hid (Below w.heap.size w w4) := B3.out.trans (B34.out.mono (by omega))
    have hs4 := B34.out.size
    clear hb4
    go_wp2_with fail
    refine (sameDisk_yes _ _ fs0 _ (C3.out.below B34.out (Nat.le_refl _)) (D3.out.below B34.out (Nat.le_refl _)) HG.out).mono ?_
    rintro e w5 ⟨rfl, hb5⟩
    have B5 : Hid (Below w.heap.size w w5) := B4.out.trans (hb5.mono (by omega))
    clear hb5
    go_wp2_with fail
    go_ret
    exact ⟨ret_bool (by simp), B5.out⟩

set_option maxHeartbeats 400000 in
set_option maxRecDepth 100000 in
theorem lifted (os : Os) (started : os.Started) (H : Type) (enc : TypeId × Value → H) :
    ReturnsInHanded {} Try.checked os 3 .any (Rows.diskAppendsSpec.pre6 enc Try.prog Try.f3 Rows.diskAppendsRow.domain false) (Rows.diskAppendsSpec.post enc Try.prog Try.f3 false true false false) := by
  refine returnsInHanded_of_change_sized (C := Try.checked) own started (by kernel_rfl) Try.func3
    (ChangeSpec.witness6 (enc := enc) (C := Try.checked) false ⟨#[], #[.agg #[.slice none 0 0], .string ByteArray.empty, .slice none 0 0], []⟩ 8 (by kernel_rfl) (by kernel_rfl) (by kernel_rfl) (by kernel_rfl)) ?_
  intro W base args ds gs before hval0 hW _ hsz0 _
  have hval : ∀ (j : Nat) t v, Try.f3.params[j]? = some t → args[j]? = some v → Value.okWide Try.prog W .any base t v := hval0
  have hW' := hW
  obtain ⟨p, q, hA0, hV, rfl, hfz, hnd⟩ := hW
  have hA : DataW.TrodAll enc Try.prog W 0 (fun _ => true) true Try.f3.params.toList args.toList ds p := hA0
  have hsz : (DataW.weightsEach Try.prog (Try.f3.params.toList ++ Rows.diskAppendsSpec.plain.varTypes Try.prog) (ds ++ gs)).all (fun x => decide (x ≤ reachBytes)) = true := hsz0
  rw [Try.params3] at hA hval hsz
  obtain ⟨v0, vs0, d0, ds0, p0, q0, hargs, rfl, rfl, h0, r0⟩ := trodAll_cons hA
  obtain ⟨v1, vs1, d1, ds1, p1, q1, rfl, rfl, rfl, h1, r1⟩ := trodAll_cons r0
  obtain ⟨v2, vs2, d2, ds2, p2, q2, rfl, rfl, rfl, h2, r2⟩ := trodAll_cons r1
  obtain ⟨rfl, rfl, rfl⟩ := trodAll_nil r2
  obtain rfl : args = #[v0, v1, v2] := by cases args; simp_all
  obtain ⟨rfl, rfl⟩ := trodVars_none hV
  have k0 := h0
  have lt0 : ∀ x ∈ p0, x.block < W.heap.size := by obtain ⟨m, hm⟩ := k0; exact DataW.trod_lt m _ _ _ hm
  have hw0 : ∀ m ∈ d0.weights Try.prog 24, m ≤ reachBytes := fun m hm => by simpa using List.all_eq_true.1 hsz _ (DataW.weights_mem_each (j := 0) (t := 24) rfl rfl m hm)
  have k1 := h1
  have lt1 : ∀ x ∈ p1, x.block < W.heap.size := by obtain ⟨m, hm⟩ := k1; exact DataW.trod_lt m _ _ _ hm
  have k2 := h2
  have lt2 : ∀ x ∈ p2, x.block < W.heap.size := by obtain ⟨m, hm⟩ := k2; exact DataW.trod_lt m _ _ _ hm
  have hw2 : ∀ m ∈ d2.weights Try.prog 25, m ≤ reachBytes := fun m hm => by simpa using List.all_eq_true.1 hsz _ (DataW.weights_mem_each (j := 2) (t := 25) rfl rfl m hm)
  obtain ⟨w0, fs0, rfl, hD0, hG0, hL0⟩ := open_disk (okWide_struct Try.underlying24 (hval 0 24 v0 rfl rfl)) h0 hw0
  obtain ⟨s1, rfl, _, _, hS1⟩ := Go.ChangeMaps.open_string Try.underlying9 (hval 1 9 v1 rfl rfl) h1
  obtain ⟨xs2, hR2, hB2, hN2⟩ := open_bytes (okWide_slice Try.underlying25 (hval 2 25 v2 rfl rfl)) h2 hw2
  clear hA0 hval0
  refine (walk w0 fs0 s1 v2 xs2 W hD0 hG0 hL0 hS1 hR2 hB2 hN2).mono fun e W' ⟨he, bel⟩ => ?_
  subst he
  exact ⟨_, rfl, _, _, _, [], _, [], hW', trodAll_mk1 (shut_bool Try.underlying4 _), (trodAll_cons_mk (Below.trod laidOut (by kernel_rfl) (of_decide_eq_true (by kernel_rfl)) k0 bel lt0) (trodAll_cons_mk (Below.trod laidOut (by kernel_rfl) (of_decide_eq_true (by kernel_rfl)) k1 bel lt1) (trodAll_cons_mk (Below.trod laidOut (by kernel_rfl) (of_decide_eq_true (by kernel_rfl)) k2 bel lt2) trodAll_mk0))), rfl, bel.frame _, fun h => by cases h⟩

theorem over : Rows.diskAppendsRow.holds Try.pinned (OpenSpec.ofChange Rows.diskAppendsSpec) :=
  OpenClaim.holds_of_wide 3 Try.f3 rfl rfl rfl rfl rfl rfl rfl ⟨rfl, rfl, rfl, rfl, rfl⟩ rfl rfl rfl rfl rfl (by kernel_rfl) Try.func3 (by kernel_rfl)
    (of_decide_eq_true (by kernel_rfl)) (by unfold Func.isWrapper; first | (rw [if_pos (by decide +kernel)]; kernel_rfl) | (rw [if_neg (by decide +kernel)]; exact ⟨rfl, rfl⟩))
    (fun os started H enc _ => lifted os started H enc)

/-- The statement. -/
theorem proved : Rows.DiskAppendsSaid := over
#print axioms proved
end Go.Proofs.Ytdhaccljidhdcaa.diskAppends
