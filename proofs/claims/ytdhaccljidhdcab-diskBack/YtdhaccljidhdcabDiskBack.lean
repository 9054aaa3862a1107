/-
  What is appended stands behind what stood there, and no other file is touched, whatever the notes, the names and the bytes (the law DiskBack returns true, and its arguments read as before); no condition.
-/
import Derived.Test.YtdhaccljidhdcabBackLib
import Derived.Test.YtdhaccljidhdcabLawSame
import Derived.Test.YtdhaccljidhdcabDiskOpen
import Derived.WalkKit
import Derived.ProofKit
import Derived.OpenShut
import Derived.ShutString
import Derived.SizedLaws
import Derived.ChangeOld
import Derived.Below
import Derived.Deep.RegionHeld3
namespace Go.Proofs.Ytdhaccljidhdcab.diskBack
open Go.ChangeShapes Go.WideShapes Go.ChangeAt Go.RowKit

theorem own : ownKnob Try.prog.godebug = none := by kernel_rfl
theorem laidOut : laidOutB Try.prog = true := by kernel_rfl

set_option maxHeartbeats 1000000 in
set_option maxRecDepth 100000 in
theorem walk (v0 : Value) (ns0 : List NoteL) (n1 : Int) (v2 : Value) (xs2 : List Int) (n3 : Int) (w : World) (hN0 : NotesR w v0 ns0) (hG0 : GoodN ns0) (hI1 : -9223372036854775808 ≤ n1 ∧ n1 ≤ 9223372036854775807) (hR2 : Reads .u8 w v2 xs2) (hB2 : ∀ x ∈ xs2, 0 ≤ x ∧ x ≤ 255) (hN2 : xs2.length ≤ 140737488351232) (hI3 : -9223372036854775808 ≤ n3 ∧ n3 ≤ 9223372036854775807) :
    Calls Try.prog 3 #[v0, .int .i64 n1, v2, .int .i64 n3] w fun e w' => e = .returned (.bool true) ∧ Below w.heap.size w w' := by
  have _u := hN0
  clear _u
  have _u := hG0
  clear _u
  have _u := hI1
  clear _u
  have _u := hR2
  clear _u
  have _u := hB2
  clear _u
  have _u := hN2
  clear _u
  have _u := hI3
  clear _u
  have HNN : Hid (NotesR w v0 ns0) := hN0
  have HGN : Hid (GoodN ns0) := hG0
  obtain ⟨la, lc, rfl, _, _, _⟩ := hN0
  have HR2 : Hid (Reads .u8 w v2 xs2) := hR2
  have HB2 : Hid (∀ x ∈ xs2, 0 ≤ x ∧ x ≤ 255) := hB2
  obtain ⟨pa, pn, pc, rfl⟩ : ∃ a n c, v2 = .slice a n c := by obtain ⟨a, c, h, _⟩ := hR2; exact ⟨_, _, _, h⟩
  clear hG0 hR2 hB2
  go_enter Try.func3, Try.ntmps3
  go_wp2_with fail
  refine (done_any _ ns0 _ HNN.out HGN.out).mono ?_
  rintro e w1 ⟨v1, fs, rfl, hd1, hi1, hb1⟩
  have hx30 : (xs2.take 30).length ≤ 30 := by rw [List.length_take]; omega
  obtain ⟨q, OL, e0, a1, i1, qp, a2, a3, a4, a5, a6, a7⟩ := back_math (n := nmF n1) (X := xs2.take 30) hi1 (nmF_ok n1) (nmF_max n1) (fun x hx => HB2.out x (List.mem_of_mem_take hx)) hx30
  have HX : Hid (∀ x ∈ xs2.take 30, 0 ≤ x ∧ x ≤ 255) := fun x hx => HB2.out x (List.mem_of_mem_take hx)
  have A1 : Hid (chF fs (appendF fs (nmF n1) (xs2.take 30)) = (q, 0)) := by show _ = _; rw [chF, if_pos hi1.may]; exact a1
  have A2 : Hid (readF fs (nmF n1) = (OL, e0)) := a2
  have A3 : Hid (e0 = 0 ∨ e0 = 7) := a3
  have A4 : Hid (readF q (nmF n1) = (OL ++ xs2.take 30, 0)) := a4
  have A6 : Hid (∀ m, nmF n1 ≠ m → readF q m = readF fs m) := a6
  have A7 : Hid (∀ x ∈ OL ++ xs2.take 30, 0 ≤ x ∧ x ≤ 255) := a7
  have QP : Hid (0 < q.length ∧ OL.length ≤ 100000) := ⟨qp, a5⟩
  have I0 : Hid (Inv fs 20 600) := hi1
  have I1 : Hid (Inv q 21 630) := i1
  obtain ⟨da, dn, dc, rfl⟩ : ∃ a n c, v1 = .slice a n c := by obtain ⟨a, c, h, _⟩ := hd1; exact ⟨_, _, _, h⟩
  have HD1 : Hid (HasD (w1.alloc (.cells #[.slice da dn dc] 26)) w1.heap.size (.slice da dn dc) fs) := ⟨heap_alloc_new _ _, hd1.below (below_alloc _ _) (Nat.le_refl _)⟩
  have B1 : Hid (Below w.heap.size w (w1.alloc (.cells #[.slice da dn dc] 26))) := hb1.alloc hb1.size _
  have HR1 : Hid (Reads .u8 (w1.alloc (.cells #[.slice da dn dc] 26)) (.slice pa pn pc) xs2) := HR2.out.below B1.out (Nat.le_refl _)
  clear hb1 hi1 hd1 a1 a2 a3 a4 a5 a6 a7 qp i1 HR2 HB2
  go_wp2_with fail
  generalize w1.alloc (.cells #[.slice da dn dc] 26) = W1 at *
  generalize w1.heap.size = p at *
  refine (some_any _ xs2 30 _ HR1.out (by omega)).mono ?_
  rintro e W2 ⟨v2, rfl, ho2, hb2⟩
  have D2 : Hid (HasD W2 p (.slice da dn dc) fs) := HD1.out.go hb2 (Nat.le_refl _)
  have B2 : Hid (Below w.heap.size w W2) := B1.out.trans (hb2.mono B1.out.size)
  have R2 : Hid (Reads .u8 W2 v2 (xs2.take 30)) := reads_own ho2
  obtain ⟨ba, bn, bc, rfl⟩ : ∃ a n c, v2 = .slice a n c := by obtain ⟨a, c, h, _⟩ := R2.out; exact ⟨_, _, _, h⟩
  clear ho2 hb2 HD1 B1 HR1
  generalize xs2.take 30 = X at *
  go_wp2_with fail
  have HS : Hid (∀ W', Below W2.heap.size W2 W' → W'.cell? ⟨p, 0, none⟩ = some (.slice da dn dc)) := fun W' hb => (D2.out.go hb (Nat.le_refl _)).cell
  go_region_held3 (fun V => V.cell? ⟨p, 0, none⟩ = some (.slice da dn dc)) (first | exact HS.out _ (Below.refl _ _).drew | exact HS.out _ C7.out | exact HS.out _ C6.out) (first
      | (go_at_call 11; refine (name_any n1 _ hI1.1 hI1.2).mono ?_; rintro e w6 ⟨rfl, hb6⟩
         have C6 : Hid (Below W2.heap.size W2 w6) := ((Below.refl _ _).drew).trans (hb6.mono (by simp))
         clear hb6)
      | (go_at_call 10; refine (read_own _ fs (nmF n1) _ ?_ I0.out.good).mono ?_
         exact (D2.out.go C6.out (Nat.le_refl _)).2
         rintro e W3 ⟨v7, rfl, hr7, hb7⟩
         have C7 : Hid (Below W2.heap.size W2 W3) := C6.out.trans (hb7.mono C6.out.size)
         rw [A2.out] at hr7 ⊢
         have O3 : Hid (W3.ownsRow W2.heap.size 5 1 v7 (OL).length ((OL).map (Value.int .u8))) := own_lower hr7 C6.out.size
         obtain ⟨oa, on, oc, rfl⟩ : ∃ a n c, v7 = .slice a n c := by obtain ⟨a, c, h, _⟩ := reads_own O3.out; exact ⟨_, _, _, h⟩
         clear hb7 hr7))
  have C23 : Hid (Below W2.heap.size W2 W3) := C7.out
  have R3 : Hid (Reads .u8 W3 (.slice ba bn bc) X) := R2.out.below C7.out (Nat.le_refl _)
  have D3 : Hid (HasD W3 p (.slice da dn dc) fs) := D2.out.go C7.out (Nat.le_refl _)
  clear HS C6 C7
  go_wp2_with fail
  have HS : Hid (∀ W', Below W3.heap.size W3 W' → W'.cell? ⟨p, 0, none⟩ = some (.slice da dn dc)) := fun W' hb => (D3.out.go hb (Nat.le_refl _)).cell
  have HDD : Hid (∀ W', Below W3.heap.size W3 W' → DiskR W' (.slice da dn dc) fs) := fun W' hb => (D3.out.go hb (Nat.le_refl _)).2
  have HRR : Hid (∀ W', Below W3.heap.size W3 W' → Reads .u8 W' (.slice ba bn bc) X) := fun W' hb => R3.out.below hb (Nat.le_refl _)
  apply Hid.cut
  case h =>
    intro HG
    go_region_held3 (fun V => V.cell? ⟨p, 0, none⟩ = some (.slice da dn dc)) (first | exact HS.out _ (Below.refl _ _).drew | exact HS.out _ (((Below.refl _ _).drew).alloc (by simp) _) | exact HS.out _ (C7.out.setCell (p := ⟨_, 0, none⟩) (by first | exact Nat.le_refl _ | exact C6.out.size) _) | exact HS.out _ (C7.out.alloc C7.out.size _) | exact HS.out _ C7.out | exact HS.out _ (C6.out.alloc C6.out.size _) | exact HS.out _ C6.out) (first
      | (go_at_call 11; refine (name_any n1 _ hI1.1 hI1.2).mono ?_; rintro e w6 ⟨rfl, hb6⟩
         have C6 : Hid (Below W3.heap.size W3 w6) := by (first | exact ((Below.refl _ _).drew).trans (hb6.mono (by simp)) | exact (((Below.refl _ _).drew).alloc (by simp) _).trans (hb6.mono (by simp)))
         try (have M6 : Hid (w6.heap[W3.heap.size]? = some (.cells #[.slice none 0 0] 26 (0, 0))) := (hb6.block W3.heap.size (by simp)).trans (heap_alloc_new W3.drew _))
         clear hb6)
      | (go_at_call 12; refine (diskAppend_own _ fs (nmF n1) _ X _ ?_ I0.out.good (nmF_max _) ?_ HX.out).mono ?_
         (first | exact HDD.out _ C6.out | exact HDD.out _ (C6.out.alloc C6.out.size _))
         (first | exact HRR.out _ C6.out | exact HRR.out _ (C6.out.alloc C6.out.size _))
         rintro e w7 ⟨v7, rfl, hr7, hb7⟩
         have hs6 := C6.out.size
         have C7 : Hid (Below W3.heap.size W3 w7) := by (first | exact C6.out.trans (hb7.mono hs6) | exact (C6.out.alloc hs6 _).trans (hb7.mono (by simp; omega)))
         try (have M7 : Hid (w7.heap[W3.heap.size]? = some (.cells #[.slice none 0 0] 26 (0, 0))) := (hb7.block W3.heap.size (heap_lt M6.out)).trans M6.out)
         try (have N7 : Hid (w7.heap[w6.heap.size]? = some (.cells #[.slice none 0 0] 26 (0, 0))) := (hb7.block w6.heap.size (by simp)).trans (heap_alloc_new w6 _))
         try (have m7 : w7.cell? ⟨W3.heap.size, 0, none⟩ = some (.slice none 0 0) := by (rw [cell_of_row w7 _ _ _ _ _ M7.out]; rfl))
         try (have z7 : w7.frozen? ⟨W3.heap.size, 0, none⟩ = false := by (simp only [World.frozen?, M7.out]; simp))
         try (have m7 : w7.cell? ⟨w6.heap.size, 0, none⟩ = some (.slice none 0 0) := by (rw [cell_of_row w7 _ _ _ _ _ N7.out]; rfl))
         try (have z7 : w7.frozen? ⟨w6.heap.size, 0, none⟩ = false := by (simp only [World.frozen?, N7.out]; simp))
         rw [A1.out] at hr7 ⊢
         have R7 : Hid (DiskB W3.heap.size w7 v7 q) := hr7.lower (by first | exact hs6 | (simp; omega))
         obtain ⟨va, vc, hv7⟩ : ∃ a c, v7 = .slice a q.length c := by obtain ⟨a, c, h, _⟩ := hr7; exact ⟨a, c, h⟩
         subst hv7
         clear hb7 hr7))
    all_goals rename_i hh
    all_goals clear hh
    all_goals first
      | (have NB : Hid (NewO W3 (w7.setCell ⟨W3.heap.size, 0, none⟩ (.slice va q.length vc)) W3.heap.size (.slice va q.length vc) q) := ⟨C7.out.setCell (p := ⟨W3.heap.size, 0, none⟩) (Nat.le_refl _) _, Nat.le_refl _, heap_box_set _ M7.out, R7.out.setBox M7.out⟩
         obtain ⟨bb, hbb⟩ : ∃ bb, bb = W3.heap.size := ⟨_, rfl⟩
         have NC : Hid (NewO W3 (w7.setCell ⟨W3.heap.size, 0, none⟩ (.slice va q.length vc)) bb (.slice va q.length vc) q) := by rw [hbb]; exact NB
         clear NB R7 C7 M7 m7 z7 M6
         generalize w7.setCell ⟨W3.heap.size, 0, none⟩ (.slice va q.length vc) = V at *
         rw [← hbb]
         clear hbb
         revert NC V bb va vc
         exact HG.out)
      | (have NB : Hid (NewO W3 (w7.setCell ⟨w6.heap.size, 0, none⟩ (.slice va q.length vc)) w6.heap.size (.slice va q.length vc) q) := ⟨C7.out.setCell (p := ⟨w6.heap.size, 0, none⟩) hs6 _, hs6, heap_box_set _ N7.out, R7.out.setBox N7.out⟩
         obtain ⟨bb, hbb⟩ : ∃ bb, bb = w6.heap.size := ⟨_, rfl⟩
         have NC : Hid (NewO W3 (w7.setCell ⟨w6.heap.size, 0, none⟩ (.slice va q.length vc)) bb (.slice va q.length vc) q) := by rw [hbb]; exact NB
         clear NB R7 C7 N7 m7 z7
         generalize w7.setCell ⟨w6.heap.size, 0, none⟩ (.slice va q.length vc) = V at *
         rw [← hbb]
         clear hbb
         revert NC V bb va vc
         exact HG.out)
      | (have NB : Hid (NewO W3 (w7.alloc (.cells #[.slice va q.length vc] 26)) w7.heap.size (.slice va q.length vc) q) := ⟨C7.out.alloc C7.out.size _, C7.out.size, heap_alloc_new _ _, R7.out.below (below_alloc _ _) (Nat.le_refl _)⟩
         obtain ⟨bb, hbb⟩ : ∃ bb, bb = w7.heap.size := ⟨_, rfl⟩
         have NC : Hid (NewO W3 (w7.alloc (.cells #[.slice va q.length vc] 26)) bb (.slice va q.length vc) q) := by rw [hbb]; exact NB
         clear NB R7 C7 
         generalize w7.alloc (.cells #[.slice va q.length vc] 26) = V at *
         rw [← hbb]
         clear hbb
         revert NC V bb va vc
         exact HG.out)
  case g =>
    intro ga gc b4 W4 NS
    have S4 : Hid (NewO W3 W4 b4 (.slice ga q.length gc) q) := NS
    clear NS HS HDD HRR
    go_wp2_with fail
    have HS : Hid (∀ W', Below W4.heap.size W4 W' → W'.cell? ⟨b4, 0, none⟩ = some (.slice ga q.length gc)) := fun W' hb => (S4.out.go hb).cell
    go_region_held3 (fun V => V.cell? ⟨b4, 0, none⟩ = some (.slice ga q.length gc)) (first | exact HS.out _ (Below.refl _ _).drew | exact HS.out _ C7.out | exact HS.out _ C6.out) (first
        | (go_at_call 11; refine (name_any n1 _ hI1.1 hI1.2).mono ?_; rintro e w6 ⟨rfl, hb6⟩
           have C6 : Hid (Below W4.heap.size W4 w6) := ((Below.refl _ _).drew).trans (hb6.mono (by simp))
           clear hb6)
        | (go_at_call 10; refine (read_own _ q (nmF n1) _ ?_ I1.out.good).mono ?_
           exact (S4.out.go C6.out).2.2.2.reads
           rintro e W5 ⟨v7, rfl, hr7, hb7⟩
           have C7 : Hid (Below W4.heap.size W4 W5) := C6.out.trans (hb7.mono C6.out.size)
           rw [A4.out] at hr7 ⊢
           have O5 : Hid (W5.ownsRow W4.heap.size 5 1 v7 (OL ++ X).length ((OL ++ X).map (Value.int .u8))) := own_lower hr7 C6.out.size
           obtain ⟨na, nn, nc, rfl⟩ : ∃ a n c, v7 = .slice a n c := by obtain ⟨a, c, h, _⟩ := reads_own O5.out; exact ⟨_, _, _, h⟩
           clear hb7 hr7))
    have S5 : Hid (NewO W3 W5 b4 (.slice ga q.length gc) q) := S4.out.go C7.out
    have C35 : Hid (Below W3.heap.size W3 W5) := S5.out.1
    have P5 : Hid (W5.ownsRow W2.heap.size 5 1 (.slice oa on oc) OL.length (OL.map (Value.int .u8))) := own_below O3.out C35.out (Nat.le_refl _)
    have R5 : Hid (Reads .u8 W5 (.slice ba bn bc) X) := R3.out.below C35.out (Nat.le_refl _)
    have C25 : Hid (Below W2.heap.size W2 W5) := C23.out.trans (C35.out.mono C23.out.size)
    have olt : Hid (∀ k, (Value.slice oa on oc).ownBlock = some k → W2.heap.size ≤ k ∧ k < W3.heap.size) := O3.out.lt
    have qp := QP.out.1
    have ol5 := QP.out.2
    have c5 := S5.out.cell
    have hq0 : ((q.length : Int) == 0) = false := by rw [beq_eq_false_iff_ne]; omega
    have f00 : ((0 : Int) != 0) = false := rfl
    have h35 := S4.out.1.size
    clear HS C6 C7
    rcases A3.out with he | he
    all_goals
      subst he
      clear A3
      go_wp2_with (at_builtin; refine wpList_append_guard (by rfl) _ _ rfl W2.heap.size _ OL rfl P5.out _ X rfl R5.out (by omega) C25.out.size ?_)
      intro v6 W6 ho6 hg6
      have C26 : Hid (Below W2.heap.size W2 W6) := C25.out.grown hg6 C25.out.size (fun k hk => (olt.out k hk).1)
      have D6 : Hid (HasD W6 p (.slice da dn dc) fs) := D2.out.go C26.out (Nat.le_refl _)
      have E6 : Hid (HasD W6 b4 (.slice ga q.length gc) q) := S5.out.has hg6 (fun k hk => (olt.out k hk).2)
      have RA6 : Hid (Reads .u8 W6 v6 (OL ++ X)) := reads_own (show W6.ownsRow W2.heap.size 5 1 v6 (OL ++ X).length ((OL ++ X).map (Value.int .u8)) by simpa using ho6)
      have RN6 : Hid (Reads .u8 W6 (.slice na nn nc) (OL ++ X)) := reads_own (O5.out.kept hg6 (by
        cases hk : (Value.slice na nn nc).ownBlock with
        | none => exact .inl rfl
        | some k =>
          refine .inr (fun e => ?_)
          have h1 := (O5.out.lt k hk).1
          have h2 := (olt.out k e.symm).2
          omega))
      have B6 : Hid (Below w.heap.size w W6) := B2.out.trans (C26.out.mono B2.out.size)
      obtain ⟨aa, an, ac, rfl⟩ : ∃ a n c, v6 = .slice a n c := by obtain ⟨a, c, h, _⟩ := RA6.out; exact ⟨_, _, _, h⟩
      clear ho6 hg6 O3 O5 R2 R3 D2 D3 S4 S5 C35 P5 R5 C25 olt C26 B2 C23
      go_wp2_with fail
      refine (sameBytes_yes _ _ (OL ++ X) _ RN6.out RA6.out A7.out).mono ?_
      rintro e w10 ⟨rfl, rfl⟩
      go_wp2_with fail
      refine (name_any n3 _ hI3.1 hI3.2).mono ?_
      rintro e w11 ⟨rfl, hb11⟩
      have D7 : Hid (HasD w11 p (.slice da dn dc) fs) := D6.out.go hb11 (Nat.le_refl _)
      have E7 : Hid (HasD w11 b4 (.slice ga q.length gc) q) := E6.out.go hb11 (Nat.le_refl _)
      have B7 : Hid (Below w.heap.size w w11) := B6.out.trans (hb11.mono B6.out.size)
      clear hb11 D6 E6 B6
      go_wp2_with fail
      refine (name_any n1 _ hI1.1 hI1.2).mono ?_
      rintro e W8 ⟨rfl, hb12⟩
      have D8 : Hid (HasD W8 p (.slice da dn dc) fs) := D7.out.go hb12 (Nat.le_refl _)
      have E8 : Hid (HasD W8 b4 (.slice ga q.length gc) q) := E7.out.go hb12 (Nat.le_refl _)
      have B8 : Hid (Below w.heap.size w W8) := B7.out.trans (hb12.mono B7.out.size)
      clear hb12 D7 E7 B7
      by_cases hab : nmF n3 = nmF n1
      · have eab := name_yes hab
        clear hab
        go_wp2_with fail
        go_ret
        exact ⟨ret_bool (by simp), B8.out⟩
      · have eab := name_no hab
        have AN : Hid (readF q (nmF n3) = readF fs (nmF n3)) := A6.out _ (fun e => hab e.symm)
        have BY : Hid (∀ x ∈ (readF fs (nmF n3)).1, 0 ≤ x ∧ x ≤ 255) := readF_bytes I0.out.good
        clear hab
        go_wp2_with fail
        have HS : Hid (∀ W', Below W8.heap.size W8 W' → W'.cell? ⟨p, 0, none⟩ = some (.slice da dn dc)) := fun W' hb => (D8.out.go hb (Nat.le_refl _)).cell
        go_region_held3 (fun V => V.cell? ⟨p, 0, none⟩ = some (.slice da dn dc)) (first | exact HS.out _ (Below.refl _ _).drew | exact HS.out _ C7.out | exact HS.out _ C6.out) (first
            | (go_at_call 11; refine (name_any n3 _ hI3.1 hI3.2).mono ?_; rintro e w6 ⟨rfl, hb6⟩
               have C6 : Hid (Below W8.heap.size W8 w6) := ((Below.refl _ _).drew).trans (hb6.mono (by simp))
               clear hb6)
            | (go_at_call 10; refine (read_any _ fs (nmF n3) _ ?_ I0.out.good).mono ?_
               exact (D8.out.go C6.out (Nat.le_refl _)).2
               rintro e W9 ⟨v7, rfl, hr7, hb7⟩
               have C7 : Hid (Below W8.heap.size W8 W9) := C6.out.trans (hb7.mono C6.out.size)
               skip
               have RX9 : Hid (Reads .u8 W9 v7 (readF fs (nmF n3)).1) := hr7
               obtain ⟨xa, xc, hv7⟩ : ∃ a c, v7 = .slice a (readF fs (nmF n3)).1.length c := by obtain ⟨a, c, h, _⟩ := hr7; exact ⟨a, c, h⟩
               subst hv7
               clear hb7 hr7))
        have E9 : Hid (HasD W9 b4 (.slice ga q.length gc) q) := E8.out.go C7.out (Nat.le_refl _)
        have B9 : Hid (Below w.heap.size w W9) := B8.out.trans (C7.out.mono B8.out.size)
        clear HS C6 C7 D8 E8 B8
        go_wp2_with fail
        have HS : Hid (∀ W', Below W9.heap.size W9 W' → W'.cell? ⟨b4, 0, none⟩ = some (.slice ga q.length gc)) := fun W' hb => (E9.out.go hb (Nat.le_refl _)).cell
        go_region_held3 (fun V => V.cell? ⟨b4, 0, none⟩ = some (.slice ga q.length gc)) (first | exact HS.out _ (Below.refl _ _).drew | exact HS.out _ C7.out | exact HS.out _ C6.out) (first
            | (go_at_call 11; refine (name_any n3 _ hI3.1 hI3.2).mono ?_; rintro e w6 ⟨rfl, hb6⟩
               have C6 : Hid (Below W9.heap.size W9 w6) := ((Below.refl _ _).drew).trans (hb6.mono (by simp))
               clear hb6)
            | (go_at_call 10; refine (read_any _ q (nmF n3) _ ?_ I1.out.good).mono ?_
               exact (E9.out.go C6.out (Nat.le_refl _)).2
               rintro e W10 ⟨v7, rfl, hr7, hb7⟩
               have C7 : Hid (Below W9.heap.size W9 W10) := C6.out.trans (hb7.mono C6.out.size)
               rw [AN.out] at hr7 ⊢
               have RY10 : Hid (Reads .u8 W10 v7 (readF fs (nmF n3)).1) := hr7
               obtain ⟨ya, yc, hv7⟩ : ∃ a c, v7 = .slice a (readF fs (nmF n3)).1.length c := by obtain ⟨a, c, h, _⟩ := hr7; exact ⟨a, c, h⟩
               subst hv7
               clear hb7 hr7))
        have RX10 : Hid (Reads .u8 W10 (.slice xa (readF fs (nmF n3)).1.length xc) (readF fs (nmF n3)).1) := RX9.out.below C7.out (Nat.le_refl _)
        have B10 : Hid (Below w.heap.size w W10) := B9.out.trans (C7.out.mono B9.out.size)
        clear HS C6 C7 E9 B9 RX9 AN
        generalize readF fs (nmF n3) = qq at *
        obtain ⟨x1, x2⟩ := qq
        have ex : (x2 == x2) = true := by simp
        go_wp2_with fail
        refine (sameBytes_yes _ _ x1 _ RX10.out RY10.out BY.out).mono ?_
        rintro e w13 ⟨rfl, rfl⟩
        go_wp2_with fail
        go_ret
        exact ⟨ret_bool (by simp), B10.out⟩

set_option maxHeartbeats 400000 in
set_option maxRecDepth 100000 in
theorem lifted (os : Os) (started : os.Started) (H : Type) (enc : TypeId × Value → H) :
    ReturnsInHanded {} Try.checked os 3 .any (Rows.diskBackSpec.pre6 enc Try.prog Try.f3 Rows.diskBackRow.domain false) (Rows.diskBackSpec.post enc Try.prog Try.f3 false true false false) := by
  refine returnsInHanded_of_change_sized (C := Try.checked) own started (by kernel_rfl) Try.func3
    (ChangeSpec.witness6 (enc := enc) (C := Try.checked) false ⟨#[], #[.slice none 0 0, .int .i64 0, .slice none 0 0, .int .i64 0], []⟩ 8 (by kernel_rfl) (by kernel_rfl) (by kernel_rfl) (by kernel_rfl)) ?_
  intro W base args ds gs before hval0 hW _ hsz0 _
  have hval : ∀ (j : Nat) t v, Try.f3.params[j]? = some t → args[j]? = some v → Value.okWide Try.prog W .any base t v := hval0
  have hW' := hW
  obtain ⟨p, q, hA0, hV, rfl, hfz, hnd⟩ := hW
  have hA : DataW.TrodAll enc Try.prog W 0 (fun _ => true) true Try.f3.params.toList args.toList ds p := hA0
  have hsz : (DataW.weightsEach Try.prog (Try.f3.params.toList ++ Rows.diskBackSpec.plain.varTypes Try.prog) (ds ++ gs)).all (fun x => decide (x ≤ reachBytes)) = true := hsz0
  rw [Try.params3] at hA hval hsz
  obtain ⟨v0, vs0, d0, ds0, p0, q0, hargs, rfl, rfl, h0, r0⟩ := trodAll_cons hA
  obtain ⟨v1, vs1, d1, ds1, p1, q1, rfl, rfl, rfl, h1, r1⟩ := trodAll_cons r0
  obtain ⟨v2, vs2, d2, ds2, p2, q2, rfl, rfl, rfl, h2, r2⟩ := trodAll_cons r1
  obtain ⟨v3, vs3, d3, ds3, p3, q3, rfl, rfl, rfl, h3, r3⟩ := trodAll_cons r2
  obtain ⟨rfl, rfl, rfl⟩ := trodAll_nil r3
  obtain rfl : args = #[v0, v1, v2, v3] := by cases args; simp_all
  obtain ⟨rfl, rfl⟩ := trodVars_none hV
  have k0 := h0
  have lt0 : ∀ x ∈ p0, x.block < W.heap.size := by obtain ⟨m, hm⟩ := k0; exact DataW.trod_lt m _ _ _ hm
  have k1 := h1
  have lt1 : ∀ x ∈ p1, x.block < W.heap.size := by obtain ⟨m, hm⟩ := k1; exact DataW.trod_lt m _ _ _ hm
  have k2 := h2
  have lt2 : ∀ x ∈ p2, x.block < W.heap.size := by obtain ⟨m, hm⟩ := k2; exact DataW.trod_lt m _ _ _ hm
  have hw2 : ∀ m ∈ d2.weights Try.prog 23, m ≤ reachBytes := fun m hm => by simpa using List.all_eq_true.1 hsz _ (DataW.weights_mem_each (j := 2) (t := 23) rfl rfl m hm)
  have k3 := h3
  have lt3 : ∀ x ∈ p3, x.block < W.heap.size := by obtain ⟨m, hm⟩ := k3; exact DataW.trod_lt m _ _ _ hm
  obtain ⟨ns0, hN0, hG0⟩ := open_notes (okWide_slice Try.underlying22 (hval 0 22 v0 rfl rfl)) h0
  obtain ⟨n1, rfl, _, _, wf1⟩ := open_int Try.underlying3 (hval 1 3 v1 rfl rfl) h1
  have hI1 := bounds_i64 wf1
  obtain ⟨xs2, hR2, hB2, hN2⟩ := open_bytes (okWide_slice Try.underlying23 (hval 2 23 v2 rfl rfl)) h2 hw2
  obtain ⟨n3, rfl, _, _, wf3⟩ := open_int Try.underlying3 (hval 3 3 v3 rfl rfl) h3
  have hI3 := bounds_i64 wf3
  clear hA0 hval0
  refine (walk v0 ns0 n1 v2 xs2 n3 W hN0 hG0 hI1 hR2 hB2 hN2 hI3).mono fun e W' ⟨he, bel⟩ => ?_
  subst he
  exact ⟨_, rfl, _, _, _, [], _, [], hW', trodAll_mk1 (shut_bool Try.underlying4 _), (trodAll_cons_mk (Below.trod laidOut (by kernel_rfl) (of_decide_eq_true (by kernel_rfl)) k0 bel lt0) (trodAll_cons_mk (Below.trod laidOut (by kernel_rfl) (of_decide_eq_true (by kernel_rfl)) k1 bel lt1) (trodAll_cons_mk (Below.trod laidOut (by kernel_rfl) (of_decide_eq_true (by kernel_rfl)) k2 bel lt2) (trodAll_cons_mk (Below.trod laidOut (by kernel_rfl) (of_decide_eq_true (by kernel_rfl)) k3 bel lt3) trodAll_mk0)))), rfl, bel.frame _, fun h => by cases h⟩

theorem over : Rows.diskBackRow.holds Try.pinned (OpenSpec.ofChange Rows.diskBackSpec) :=
  OpenClaim.holds_of_wide 3 Try.f3 rfl rfl rfl rfl rfl rfl rfl ⟨rfl, rfl, rfl, rfl, rfl⟩ rfl rfl rfl rfl rfl (by kernel_rfl) Try.func3 (by kernel_rfl)
    (of_decide_eq_true (by kernel_rfl)) (by unfold Func.isWrapper; first | (rw [if_pos (by decide +kernel)]; kernel_rfl) | (rw [if_neg (by decide +kernel)]; exact ⟨rfl, rfl⟩))
    (fun os started H enc _ => lifted os started H enc)

/-- The statement. -/
theorem proved : Rows.DiskBackSaid := over
#print axioms proved
end Go.Proofs.Ytdhaccljidhdcab.diskBack
