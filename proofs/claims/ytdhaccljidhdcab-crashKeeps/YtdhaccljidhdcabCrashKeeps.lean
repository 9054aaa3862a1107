/-
  What was synced is never lost, and what was not is lost from behind alone, whatever the notes, the name, the bytes and the number (the law CrashKeeps returns true, and its arguments read as before); no condition.
-/
import Derived.Test.YtdhaccljidhdcabStepLib
import Derived.Test.YtdhaccljidhdcabLawSame
import Derived.Test.YtdhaccljidhdcabDiskOpen
import Derived.WalkKit
import Derived.ProofKit
import Derived.OpenShut
import Derived.ShutString
import Derived.SizedLaws
import Derived.ChangeOld
import Derived.Below
import Derived.Deep.RegionWith
import Derived.Deep.RegionHeld3
namespace Go.Proofs.Ytdhaccljidhdcab.crashKeeps
open Go.ChangeShapes Go.WideShapes Go.ChangeAt Go.RowKit

theorem own : ownKnob Try.prog.godebug = none := by kernel_rfl
theorem laidOut : laidOutB Try.prog = true := by kernel_rfl

set_option maxHeartbeats 1000000 in
set_option maxRecDepth 100000 in
theorem walk (v0 : Value) (ns0 : List NoteL) (n1 : Int) (v2 : Value) (xs2 : List Int) (v3 : Value) (xs3 : List Int) (n4 : Int) (w : World) (hN0 : NotesR w v0 ns0) (hG0 : GoodN ns0) (hI1 : -9223372036854775808 ≤ n1 ∧ n1 ≤ 9223372036854775807) (hR2 : Reads .u8 w v2 xs2) (hB2 : ∀ x ∈ xs2, 0 ≤ x ∧ x ≤ 255) (hN2 : xs2.length ≤ 140737488351232) (hR3 : Reads .u8 w v3 xs3) (hB3 : ∀ x ∈ xs3, 0 ≤ x ∧ x ≤ 255) (hN3 : xs3.length ≤ 140737488351232) (hI4 : -9223372036854775808 ≤ n4 ∧ n4 ≤ 9223372036854775807) :
    Calls Try.prog 4 #[v0, .int .i64 n1, v2, v3, .int .i64 n4] w fun e w' => e = .returned (.bool true) ∧ Below w.heap.size w w' := by
  have _u := hN0
  clear _u
  have _u := hG0
  clear _u
  have _u := hI1
  clear _u
  have _u := hR2
  clear _u
  have _u := hB2
  clear _u
  have _u := hN2
  clear _u
  have _u := hR3
  clear _u
  have _u := hB3
  clear _u
  have _u := hN3
  clear _u
  have _u := hI4
  clear _u
  have HNN : Hid (NotesR w v0 ns0) := hN0
  have HGN : Hid (GoodN ns0) := hG0
  obtain ⟨la, lc, rfl, _, _, _⟩ := hN0
  have HR2 : Hid (Reads .u8 w v2 xs2) := hR2
  have HR3 : Hid (Reads .u8 w v3 xs3) := hR3
  have HB2 : Hid (∀ x ∈ xs2, 0 ≤ x ∧ x ≤ 255) := hB2
  have HB3 : Hid (∀ x ∈ xs3, 0 ≤ x ∧ x ≤ 255) := hB3
  obtain ⟨pa, pn, pc, rfl⟩ : ∃ a n c, v2 = .slice a n c := by obtain ⟨a, c, h, _⟩ := hR2; exact ⟨_, _, _, h⟩
  obtain ⟨qa, qn, qc, rfl⟩ : ∃ a n c, v3 = .slice a n c := by obtain ⟨a, c, h, _⟩ := hR3; exact ⟨_, _, _, h⟩
  clear hG0 hR2 hR3 hB2 hB3
  obtain ⟨hp1, hp2⟩ := pickF_bd n4 40 (by omega)
  go_enter Try.func4, Try.ntmps4
  go_wp2_with fail
  refine (done_any _ ns0 _ HNN.out HGN.out).mono ?_
  rintro e w1 ⟨v1, fs, rfl, hd1, hi1, hb1⟩
  obtain ⟨da, dn, dc, rfl⟩ : ∃ a n c, v1 = .slice a n c := by obtain ⟨a, c, h, _⟩ := hd1; exact ⟨_, _, _, h⟩
  obtain ⟨f1, f2, f3, f4, SA, AL, LF, a1, i1, a2, i2, a3, a4, i3, a5, a6, i4, a7, m1, m2, m3, m4, m5, m6⟩ := keeps_math (X := xs2.take 30) (Y := xs3.take 30) (k := pickF n4 40) hi1 (nmF_ok n1) (nmF_max n1) (fun x hx => HB2.out x (List.mem_of_mem_take hx)) (by rw [List.length_take]; omega) (fun x hx => HB3.out x (List.mem_of_mem_take hx)) (by rw [List.length_take]; omega) hp1
  have I0 : Hid (Inv fs 20 600) := hi1
  have I1 : Hid (Inv f1 21 630) := i1
  have I2 : Hid (Inv f2 21 630) := i2
  have I3 : Hid (Inv f3 22 660) := i3
  have I4 : Hid (Inv f4 22 660) := i4
  have A1 : Hid (chF fs (appendF fs (nmF n1) (xs2.take 30)) = (f1, 0)) := by show _ = _; rw [chF, if_pos hi1.may]; exact a1
  have A2 : Hid (chF f1 (syncF f1 (nmF n1)) = (f2, 0)) := by show _ = _; rw [chF, if_pos i1.may]; exact a2
  have A3 : Hid (readF f2 (nmF n1) = (SA, 0)) := a3
  have A4 : Hid (chF f2 (appendF f2 (nmF n1) (xs3.take 30)) = (f3, 0)) := by show _ = _; rw [chF, if_pos i2.may]; exact a4
  have A5 : Hid (readF f3 (nmF n1) = (AL, 0)) := a5
  have A6 : Hid (chF f3 (crashF f3 (pickF n4 40)) = (f4, 0)) := by show _ = _; rw [chF, if_pos i3.may]; exact a6
  have A7 : Hid (readF f4 (nmF n1) = (LF, 0)) := a7
  have M1 : Hid ((LF.length : Int) = min (AL.length : Int) ((SA.length : Int) + pickF n4 40)) := m1
  have M2 : Hid (LF = AL.take LF.length) := m2
  have M6 : Hid (∀ x ∈ LF, 0 ≤ x ∧ x ≤ 255) := m6
  have X2 : Hid (∀ x ∈ xs2.take 30, 0 ≤ x ∧ x ≤ 255) := fun x hx => HB2.out x (List.mem_of_mem_take hx)
  have X3 : Hid (∀ x ∈ xs3.take 30, 0 ≤ x ∧ x ≤ 255) := fun x hx => HB3.out x (List.mem_of_mem_take hx)
  have M345 : Hid (0 < f4.length ∧ AL.length ≤ 100000 ∧ SA.length ≤ AL.length) := ⟨m3, m4, m5⟩
  have S0 : Hid (Stp w w (w1.alloc (.cells #[.slice da dn dc] 26)) w1.heap.size (.slice da dn dc) fs) := ⟨heap_alloc_new _ _, hd1.below (below_alloc _ _) (Nat.le_refl _), hb1.alloc hb1.size _, Nat.le_trans hb1.size (by simp), fun _ _ hx => hx.below (hb1.alloc hb1.size _) (Nat.le_refl _)⟩
  have hwp : w.heap.size ≤ w1.heap.size := hb1.size
  clear hi1 i1 i2 i3 i4 a1 a2 a3 a4 a5 a6 a7 m1 m2 m3 m4 m5 m6 hd1 hb1
  go_wp2_with fail
  generalize w1.alloc (.cells #[.slice da dn dc] 26) = W0 at *
  generalize w1.heap.size = p at *
  have c0 : W0.cell? ⟨p, 0, none⟩ = some (.slice da dn dc) := S0.out.cell
  have z0 : W0.frozen? ⟨p, 0, none⟩ = false := S0.out.frozen
  have hl0 : p < W0.heap.size := S0.out.lt
  apply Hid.cut
  case h =>
    intro HG
    go_region_with (first
      | (go_at_call 11; refine (name_any n1 _ hI1.1 hI1.2).mono ?_; rintro e w6 ⟨rfl, hb6⟩
         have C6 : Hid (Below W0.heap.size W0 w6) := ((Below.refl _ _).drew).trans (hb6.mono (by simp))
         have c6 : w6.cell? ⟨p, 0, none⟩ = some (.slice da dn dc) := (S0.out.go C6.out).cell
         clear hb6)
      | (go_at_call 9; refine (some_any _ xs2 30 _ ?_ ?_).mono ?_; exact (S0.out.go C6.out).reads _ _ HR2.out; omega; rintro e w8 ⟨v8, rfl, ho8, hb8⟩
         have C8 : Hid (Below W0.heap.size W0 w8) := C6.out.trans (hb8.mono C6.out.size)
         have c8 : w8.cell? ⟨p, 0, none⟩ = some (.slice da dn dc) := (S0.out.go C8.out).cell
         have O8 : Hid (Reads .u8 w8 v8 (xs2.take 30)) := reads_own ho8
         obtain ⟨ya, yn, yc, rfl⟩ : ∃ a n c, v8 = .slice a n c := by obtain ⟨a, c, h, _⟩ := O8.out; exact ⟨_, _, _, h⟩
         clear hb8 ho8)
      | (go_at_call 12; refine (diskAppend_any _ fs (nmF n1) _ (xs2.take 30) _ ?_ I0.out.good (nmF_max _) ?_ X2.out).mono ?_
         exact (S0.out.go C8.out).disk
         exact O8.out
         rintro e w7 ⟨v7, rfl, hr7, hb7⟩
         have C7 : Hid (Below W0.heap.size W0 w7) := C8.out.trans (hb7.mono C8.out.size)
         rw [A1.out] at hr7 ⊢
         have R7 : Hid (DiskR w7 v7 f1) := hr7
         have c7 : w7.cell? ⟨p, 0, none⟩ = some (.slice da dn dc) := (S0.out.go C7.out).cell
         have z7 : w7.frozen? ⟨p, 0, none⟩ = false := (S0.out.go C7.out).frozen
         obtain ⟨va, vn, vc, rfl⟩ : ∃ a n c, v7 = .slice a n c := by obtain ⟨a, c, h, _⟩ := hr7; exact ⟨_, _, _, h⟩
         clear hb7 hr7))
    all_goals
      have NS : Hid (Stp w w (w7.setCell ⟨p, 0, none⟩ (.slice va vn vc)) p (.slice va vn vc) f1) := (S0.out.go C7.out).set hwp R7.out
      clear R7 C7 c7 z7 O8 C8 C6 c6 c8
      generalize w7.setCell ⟨p, 0, none⟩ (.slice va vn vc) = V at *
      revert NS V va vn vc ya yn yc
      exact HG.out
  case g =>
    intro ya yn yc ea en ec W1 NS
    have S1 : Hid (Stp w w W1 p (.slice ea en ec) f1) := NS
    clear NS c0 z0 hl0 S0
    go_wp2_with fail
    have c0 : W1.cell? ⟨p, 0, none⟩ = some (.slice ea en ec) := S1.out.cell
    have z0 : W1.frozen? ⟨p, 0, none⟩ = false := S1.out.frozen
    have hl0 : p < W1.heap.size := S1.out.lt
    apply Hid.cut
    case h =>
      intro HG
      go_region_with (first
        | (go_at_call 11; refine (name_any n1 _ hI1.1 hI1.2).mono ?_; rintro e w6 ⟨rfl, hb6⟩
           have C6 : Hid (Below W1.heap.size W1 w6) := ((Below.refl _ _).drew).trans (hb6.mono (by simp))
           have c6 : w6.cell? ⟨p, 0, none⟩ = some (.slice ea en ec) := (S1.out.go C6.out).cell
           clear hb6)
        | (go_at_call 14; refine (diskSync_any _ f1 (nmF n1) _ ?_ I1.out.good).mono ?_
           exact (S1.out.go C6.out).disk
           rintro e w7 ⟨v7, rfl, hr7, hb7⟩
           have C7 : Hid (Below W1.heap.size W1 w7) := C6.out.trans (hb7.mono C6.out.size)
           rw [A2.out] at hr7 ⊢
           have R7 : Hid (DiskR w7 v7 f2) := hr7
           have c7 : w7.cell? ⟨p, 0, none⟩ = some (.slice ea en ec) := (S1.out.go C7.out).cell
           have z7 : w7.frozen? ⟨p, 0, none⟩ = false := (S1.out.go C7.out).frozen
           obtain ⟨va, vn, vc, rfl⟩ : ∃ a n c, v7 = .slice a n c := by obtain ⟨a, c, h, _⟩ := hr7; exact ⟨_, _, _, h⟩
           clear hb7 hr7))
      all_goals
        have NS : Hid (Stp w w (w7.setCell ⟨p, 0, none⟩ (.slice va vn vc)) p (.slice va vn vc) f2) := (S1.out.go C7.out).set hwp R7.out
        clear R7 C7 c7 z7 C6 c6
        generalize w7.setCell ⟨p, 0, none⟩ (.slice va vn vc) = V at *
        revert NS V va vn vc 
        exact HG.out
    case g =>
      intro  ga gn gc W2 NS
      have S2 : Hid (Stp w w W2 p (.slice ga gn gc) f2) := NS
      clear NS c0 z0 hl0 S1
      go_wp2_with fail
      have HS : Hid (∀ W', Below W2.heap.size W2 W' → W'.cell? ⟨p, 0, none⟩ = some (.slice ga gn gc)) := fun W' hb => (S2.out.go hb).cell
      go_region_held3 (fun V => V.cell? ⟨p, 0, none⟩ = some (.slice ga gn gc)) (first | exact HS.out _ (Below.refl _ _).drew | exact HS.out _ C7.out | exact HS.out _ C6.out) (first
          | (go_at_call 11; refine (name_any n1 _ hI1.1 hI1.2).mono ?_; rintro e w6 ⟨rfl, hb6⟩
             have C6 : Hid (Below W2.heap.size W2 w6) := ((Below.refl _ _).drew).trans (hb6.mono (by simp))
             clear hb6)
          | (go_at_call 10; refine (read_any _ f2 (nmF n1) _ ?_ I2.out.good).mono ?_
             exact (S2.out.go C6.out).disk
             rintro e W3 ⟨v7, rfl, hr7, hb7⟩
             have C7 : Hid (Below W2.heap.size W2 W3) := C6.out.trans (hb7.mono C6.out.size)
             rw [A3.out] at hr7 ⊢
             have RS3 : Hid (Reads .u8 W3 v7 SA) := hr7
             obtain ⟨sa, sc, hv7, _, _, _, _⟩ := hr7
             have hv8 : v7 = .slice sa SA.length sc := hv7
             subst hv8
             clear hb7 hv7))
      have S3 : Hid (Stp w w W3 p (.slice ga gn gc) f2) := S2.out.go C7.out
      clear HS C6 C7 S2
      have HR3W : Hid (Reads .u8 W3 (.slice qa qn qc) xs3) := S3.out.reads _ _ HR3.out
      have T3 : Hid (Stp w W3 W3 p (.slice ga gn gc) f2) := S3.out.here
      clear S3
      go_wp2_with fail
      have c0 : W3.cell? ⟨p, 0, none⟩ = some (.slice ga gn gc) := T3.out.cell
      have z0 : W3.frozen? ⟨p, 0, none⟩ = false := T3.out.frozen
      have hl0 : p < W3.heap.size := T3.out.lt
      apply Hid.cut
      case h =>
        intro HG
        go_region_with (first
          | (go_at_call 11; refine (name_any n1 _ hI1.1 hI1.2).mono ?_; rintro e w6 ⟨rfl, hb6⟩
             have C6 : Hid (Below W3.heap.size W3 w6) := ((Below.refl _ _).drew).trans (hb6.mono (by simp))
             have c6 : w6.cell? ⟨p, 0, none⟩ = some (.slice ga gn gc) := (T3.out.go C6.out).cell
             clear hb6)
          | (go_at_call 9; refine (some_any _ xs3 30 _ ?_ ?_).mono ?_; exact (T3.out.go C6.out).reads _ _ HR3W.out; omega; rintro e w8 ⟨v8, rfl, ho8, hb8⟩
             have C8 : Hid (Below W3.heap.size W3 w8) := C6.out.trans (hb8.mono C6.out.size)
             have c8 : w8.cell? ⟨p, 0, none⟩ = some (.slice ga gn gc) := (T3.out.go C8.out).cell
             have O8 : Hid (Reads .u8 w8 v8 (xs3.take 30)) := reads_own ho8
             obtain ⟨ya2, yn2, yc2, rfl⟩ : ∃ a n c, v8 = .slice a n c := by obtain ⟨a, c, h, _⟩ := O8.out; exact ⟨_, _, _, h⟩
             clear hb8 ho8)
          | (go_at_call 12; refine (diskAppend_any _ f2 (nmF n1) _ (xs3.take 30) _ ?_ I2.out.good (nmF_max _) ?_ X3.out).mono ?_
             exact (T3.out.go C8.out).disk
             exact O8.out
             rintro e w7 ⟨v7, rfl, hr7, hb7⟩
             have C7 : Hid (Below W3.heap.size W3 w7) := C8.out.trans (hb7.mono C8.out.size)
             rw [A4.out] at hr7 ⊢
             have R7 : Hid (DiskR w7 v7 f3) := hr7
             have c7 : w7.cell? ⟨p, 0, none⟩ = some (.slice ga gn gc) := (T3.out.go C7.out).cell
             have z7 : w7.frozen? ⟨p, 0, none⟩ = false := (T3.out.go C7.out).frozen
             obtain ⟨va, vn, vc, rfl⟩ : ∃ a n c, v7 = .slice a n c := by obtain ⟨a, c, h, _⟩ := hr7; exact ⟨_, _, _, h⟩
             clear hb7 hr7))
        all_goals
          have NS : Hid (Stp w W3 (w7.setCell ⟨p, 0, none⟩ (.slice va vn vc)) p (.slice va vn vc) f3) := (T3.out.go C7.out).set hwp R7.out
          clear R7 C7 c7 z7 O8 C8 C6 c6 c8
          generalize w7.setCell ⟨p, 0, none⟩ (.slice va vn vc) = V at *
          revert NS V va vn vc ya2 yn2 yc2
          exact HG.out
      case g =>
        intro ya2 yn2 yc2 ha hn hc W4 NS
        have S4 : Hid (Stp w W3 W4 p (.slice ha hn hc) f3) := NS
        clear NS c0 z0 hl0 T3
        have RS4 : Hid (Reads .u8 W4 (.slice sa SA.length sc) SA) := S4.out.reads _ _ RS3.out
        go_wp2_with fail
        have HS : Hid (∀ W', Below W4.heap.size W4 W' → W'.cell? ⟨p, 0, none⟩ = some (.slice ha hn hc)) := fun W' hb => (S4.out.go hb).cell
        go_region_held3 (fun V => V.cell? ⟨p, 0, none⟩ = some (.slice ha hn hc)) (first | exact HS.out _ (Below.refl _ _).drew | exact HS.out _ C7.out | exact HS.out _ C6.out) (first
            | (go_at_call 11; refine (name_any n1 _ hI1.1 hI1.2).mono ?_; rintro e w6 ⟨rfl, hb6⟩
               have C6 : Hid (Below W4.heap.size W4 w6) := ((Below.refl _ _).drew).trans (hb6.mono (by simp))
               clear hb6)
            | (go_at_call 10; refine (read_any _ f3 (nmF n1) _ ?_ I3.out.good).mono ?_
               exact (S4.out.go C6.out).disk
               rintro e W5 ⟨v7, rfl, hr7, hb7⟩
               have C7 : Hid (Below W4.heap.size W4 W5) := C6.out.trans (hb7.mono C6.out.size)
               rw [A5.out] at hr7 ⊢
               have RA5 : Hid (Reads .u8 W5 v7 AL) := hr7
               obtain ⟨aa, ac, hv7, _, _, _, _⟩ := hr7
               have hv8 : v7 = .slice aa AL.length ac := hv7
               subst hv8
               clear hb7 hv7))
        have S5 : Hid (Stp w W3 W5 p (.slice ha hn hc) f3) := S4.out.go C7.out
        have RS5 : Hid (Reads .u8 W5 (.slice sa SA.length sc) SA) := RS4.out.below C7.out (Nat.le_refl _)
        clear HS C6 C7 S4
        go_wp2_with fail
        refine (picked_any n4 40 _ hI4.1 hI4.2 (by omega) (by omega)).mono ?_
        rintro e w6' ⟨rfl, rfl⟩
        have c5 := S5.out.cell
        have z5 := S5.out.frozen
        have T5 : Hid (Stp w w6' w6' p (.slice ha hn hc) f3) := S5.out.here
        clear S5
        go_wp2_with fail
        refine (diskCrash_any _ f3 (pickF n4 40) _ T5.out.disk I3.out.good ⟨by omega, by omega⟩).mono ?_
        rintro e w7 ⟨v7, rfl, hr7, hb7⟩
        rw [A6.out] at hr7 ⊢
        have T7 : Hid (Stp w w6' w7 p (.slice ha hn hc) f3) := T5.out.go hb7
        have R7 : Hid (DiskR w7 v7 f4) := hr7
        obtain ⟨ka, kc, hv7, _, _, _, _⟩ := hr7
        have hv8 : v7 = .slice ka f4.length kc := hv7
        subst hv8
        have c7 := T7.out.cell
        have z7 := T7.out.frozen
        have S8 : Hid (Stp w w6' (w7.setCell ⟨p, 0, none⟩ (.slice ka f4.length kc)) p (.slice ka f4.length kc) f4) := T7.out.set hwp R7.out
        clear hb7 hv7 T5 c5 z5
        go_wp2_with fail
        clear c7 z7 T7 R7
        generalize w7.setCell ⟨p, 0, none⟩ (.slice ka f4.length kc) = W8 at *
        have RA8 : Hid (Reads .u8 W8 (.slice aa AL.length ac) AL) := S8.out.reads _ _ RA5.out
        have HS : Hid (∀ W', Below W8.heap.size W8 W' → W'.cell? ⟨p, 0, none⟩ = some (.slice ka f4.length kc)) := fun W' hb => (S8.out.go hb).cell
        go_region_held3 (fun V => V.cell? ⟨p, 0, none⟩ = some (.slice ka f4.length kc)) (first | exact HS.out _ (Below.refl _ _).drew | exact HS.out _ C7.out | exact HS.out _ C6.out) (first
            | (go_at_call 11; refine (name_any n1 _ hI1.1 hI1.2).mono ?_; rintro e w6 ⟨rfl, hb6⟩
               have C6 : Hid (Below W8.heap.size W8 w6) := ((Below.refl _ _).drew).trans (hb6.mono (by simp))
               clear hb6)
            | (go_at_call 10; refine (read_any _ f4 (nmF n1) _ ?_ I4.out.good).mono ?_
               exact (S8.out.go C6.out).disk
               rintro e W9 ⟨v7, rfl, hr7, hb7⟩
               have C7 : Hid (Below W8.heap.size W8 W9) := C6.out.trans (hb7.mono C6.out.size)
               rw [A7.out] at hr7 ⊢
               have RL9 : Hid (Reads .u8 W9 v7 LF) := hr7
               obtain ⟨ua, uc, hv7, _, _, _, _⟩ := hr7
               have hv8 : v7 = .slice ua LF.length uc := hv7
               subst hv8
               clear hb7 hv7))
        have S9 : Hid (Stp w w6' W9 p (.slice ka f4.length kc) f4) := S8.out.go C7.out
        have RA9 : Hid (Reads .u8 W9 (.slice aa AL.length ac) AL) := RA8.out.below C7.out (Nat.le_refl _)
        clear HS C6 C7 S8
        obtain ⟨m3, m4, m5⟩ := M345.out
        have c9 := S9.out.cell
        have B9 : Hid (Below w.heap.size w W9) := S9.out.below
        have m1 := M1.out
        have hlf : LF.length ≤ AL.length := by omega
        have hlf' : (LF.length : Int) ≤ (AL.length : Int) := by omega
        have m4' : (AL.length : Int) ≤ 100000 := by omega
        have m5' : (SA.length : Int) ≤ 100000 := by omega
        have l0 : ((f4.length : Int) == 0) = false := by rw [beq_eq_false_iff_ne]; omega
        have e00 : ((0 : Int) != 0) = false := rfl
        obtain ⟨ra, rc, hr9, hc9, hm9, ha9, hcell⟩ := RA9.out
        have hra : aa = ra := by injection hr9
        have hrc : ac = rc := by injection hr9
        subst hra
        subst hrc
        have e1 : LF.length ≤ ac := by omega
        have e2 : (LF.length : Int) ≤ (ac : Int) := by omega
        have RT : Hid (Reads .u8 W9 (.slice aa LF.length ac) LF) := by
          refine ⟨aa, ac, rfl, e1, hm9, ha9, fun x hx i hi => ?_⟩
          rw [hcell x hx i (by omega)]
          have h9 : LF.getD i 0 = AL.getD i 0 := by
            have h8 : (AL.take LF.length).getD i 0 = AL.getD i 0 := by simp only [List.getD_eq_getElem?_getD, List.getElem?_take, if_pos hi]
            rw [← M2.out] at h8
            exact h8
          rw [h9]
        unfold maxLen at hm9
        clear hcell hr9 S9 M345 M1 M2 RA9 RA5 RA8
        generalize pickF n4 40 = k at *
        cases aa with
        | none =>
          have hac := ha9 rfl
          subst hac
          clear ha9
          go_wp2_with fail
          refine (sameBytes_yes _ _ LF _ RL9.out ?_ M6.out).mono ?_
          · rw [show (min (AL.length : Int) ((SA.length : Int) + k)).toNat = LF.length by omega]; exact RT.out
          rintro e w10 ⟨rfl, rfl⟩
          go_wp2_with fail
          go_ret
          exact ⟨ret_bool (by simp), B9.out⟩
        | some y =>
          clear ha9
          go_wp2_with fail
          refine (sameBytes_yes _ _ LF _ RL9.out ?_ M6.out).mono ?_
          · rw [show (min (AL.length : Int) ((SA.length : Int) + k)).toNat = LF.length by omega]; exact RT.out
          rintro e w10 ⟨rfl, rfl⟩
          go_wp2_with fail
          go_ret
          exact ⟨ret_bool (by simp), B9.out⟩

set_option maxHeartbeats 400000 in
set_option maxRecDepth 100000 in
theorem lifted (os : Os) (started : os.Started) (H : Type) (enc : TypeId × Value → H) :
    ReturnsInHanded {} Try.checked os 4 .any (Rows.crashKeepsSpec.pre6 enc Try.prog Try.f4 Rows.crashKeepsRow.domain false) (Rows.crashKeepsSpec.post enc Try.prog Try.f4 false true false false) := by
  refine returnsInHanded_of_change_sized (C := Try.checked) own started (by kernel_rfl) Try.func4
    (ChangeSpec.witness6 (enc := enc) (C := Try.checked) false ⟨#[], #[.slice none 0 0, .int .i64 0, .slice none 0 0, .slice none 0 0, .int .i64 0], []⟩ 8 (by kernel_rfl) (by kernel_rfl) (by kernel_rfl) (by kernel_rfl)) ?_
  intro W base args ds gs before hval0 hW _ hsz0 _
  have hval : ∀ (j : Nat) t v, Try.f4.params[j]? = some t → args[j]? = some v → Value.okWide Try.prog W .any base t v := hval0
  have hW' := hW
  obtain ⟨p, q, hA0, hV, rfl, hfz, hnd⟩ := hW
  have hA : DataW.TrodAll enc Try.prog W 0 (fun _ => true) true Try.f4.params.toList args.toList ds p := hA0
  have hsz : (DataW.weightsEach Try.prog (Try.f4.params.toList ++ Rows.crashKeepsSpec.plain.varTypes Try.prog) (ds ++ gs)).all (fun x => decide (x ≤ reachBytes)) = true := hsz0
  rw [Try.params4] at hA hval hsz
  obtain ⟨v0, vs0, d0, ds0, p0, q0, hargs, rfl, rfl, h0, r0⟩ := trodAll_cons hA
  obtain ⟨v1, vs1, d1, ds1, p1, q1, rfl, rfl, rfl, h1, r1⟩ := trodAll_cons r0
  obtain ⟨v2, vs2, d2, ds2, p2, q2, rfl, rfl, rfl, h2, r2⟩ := trodAll_cons r1
  obtain ⟨v3, vs3, d3, ds3, p3, q3, rfl, rfl, rfl, h3, r3⟩ := trodAll_cons r2
  obtain ⟨v4, vs4, d4, ds4, p4, q4, rfl, rfl, rfl, h4, r4⟩ := trodAll_cons r3
  obtain ⟨rfl, rfl, rfl⟩ := trodAll_nil r4
  obtain rfl : args = #[v0, v1, v2, v3, v4] := by cases args; simp_all
  obtain ⟨rfl, rfl⟩ := trodVars_none hV
  have k0 := h0
  have lt0 : ∀ x ∈ p0, x.block < W.heap.size := by obtain ⟨m, hm⟩ := k0; exact DataW.trod_lt m _ _ _ hm
  have k1 := h1
  have lt1 : ∀ x ∈ p1, x.block < W.heap.size := by obtain ⟨m, hm⟩ := k1; exact DataW.trod_lt m _ _ _ hm
  have k2 := h2
  have lt2 : ∀ x ∈ p2, x.block < W.heap.size := by obtain ⟨m, hm⟩ := k2; exact DataW.trod_lt m _ _ _ hm
  have hw2 : ∀ m ∈ d2.weights Try.prog 23, m ≤ reachBytes := fun m hm => by simpa using List.all_eq_true.1 hsz _ (DataW.weights_mem_each (j := 2) (t := 23) rfl rfl m hm)
  have k3 := h3
  have lt3 : ∀ x ∈ p3, x.block < W.heap.size := by obtain ⟨m, hm⟩ := k3; exact DataW.trod_lt m _ _ _ hm
  have hw3 : ∀ m ∈ d3.weights Try.prog 23, m ≤ reachBytes := fun m hm => by simpa using List.all_eq_true.1 hsz _ (DataW.weights_mem_each (j := 3) (t := 23) rfl rfl m hm)
  have k4 := h4
  have lt4 : ∀ x ∈ p4, x.block < W.heap.size := by obtain ⟨m, hm⟩ := k4; exact DataW.trod_lt m _ _ _ hm
  obtain ⟨ns0, hN0, hG0⟩ := open_notes (okWide_slice Try.underlying22 (hval 0 22 v0 rfl rfl)) h0
  obtain ⟨n1, rfl, _, _, wf1⟩ := open_int Try.underlying3 (hval 1 3 v1 rfl rfl) h1
  have hI1 := bounds_i64 wf1
  obtain ⟨xs2, hR2, hB2, hN2⟩ := open_bytes (okWide_slice Try.underlying23 (hval 2 23 v2 rfl rfl)) h2 hw2
  obtain ⟨xs3, hR3, hB3, hN3⟩ := open_bytes (okWide_slice Try.underlying23 (hval 3 23 v3 rfl rfl)) h3 hw3
  obtain ⟨n4, rfl, _, _, wf4⟩ := open_int Try.underlying3 (hval 4 3 v4 rfl rfl) h4
  have hI4 := bounds_i64 wf4
  clear hA0 hval0
  refine (walk v0 ns0 n1 v2 xs2 v3 xs3 n4 W hN0 hG0 hI1 hR2 hB2 hN2 hR3 hB3 hN3 hI4).mono fun e W' ⟨he, bel⟩ => ?_
  subst he
  exact ⟨_, rfl, _, _, _, [], _, [], hW', trodAll_mk1 (shut_bool Try.underlying4 _), (trodAll_cons_mk (Below.trod laidOut (by kernel_rfl) (of_decide_eq_true (by kernel_rfl)) k0 bel lt0) (trodAll_cons_mk (Below.trod laidOut (by kernel_rfl) (of_decide_eq_true (by kernel_rfl)) k1 bel lt1) (trodAll_cons_mk (Below.trod laidOut (by kernel_rfl) (of_decide_eq_true (by kernel_rfl)) k2 bel lt2) (trodAll_cons_mk (Below.trod laidOut (by kernel_rfl) (of_decide_eq_true (by kernel_rfl)) k3 bel lt3) (trodAll_cons_mk (Below.trod laidOut (by kernel_rfl) (of_decide_eq_true (by kernel_rfl)) k4 bel lt4) trodAll_mk0))))), rfl, bel.frame _, fun h => by cases h⟩

theorem over : Rows.crashKeepsRow.holds Try.pinned (OpenSpec.ofChange Rows.crashKeepsSpec) :=
  OpenClaim.holds_of_wide 4 Try.f4 rfl rfl rfl rfl rfl rfl rfl ⟨rfl, rfl, rfl, rfl, rfl⟩ rfl rfl rfl rfl rfl (by kernel_rfl) Try.func4 (by kernel_rfl)
    (of_decide_eq_true (by kernel_rfl)) (by unfold Func.isWrapper; first | (rw [if_pos (by decide +kernel)]; kernel_rfl) | (rw [if_neg (by decide +kernel)]; exact ⟨rfl, rfl⟩))
    (fun os started H enc _ => lifted os started H enc)

/-- The statement. -/
theorem proved : Rows.CrashKeepsSaid := over
#print axioms proved
end Go.Proofs.Ytdhaccljidhdcab.crashKeeps
