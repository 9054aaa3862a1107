/-
  Behind a crash another one loses nothing, whatever the notes, the two numbers and the name (the law CrashAgain returns true, and its arguments read as before); no condition.
-/
import Derived.Test.YtdhaccljidhdcabBoxLib
import Derived.Test.YtdhaccljidhdcabLawSame
import Derived.Test.YtdhaccljidhdcabDiskOpen
import Derived.WalkKit
import Derived.ProofKit
import Derived.OpenShut
import Derived.ShutString
import Derived.SizedLaws
import Derived.ChangeOld
import Derived.Below
import Derived.Deep.RegionHeld3
namespace Go.Proofs.Ytdhaccljidhdcab.crashAgain
open Go.ChangeShapes Go.WideShapes Go.ChangeAt Go.RowKit

theorem own : ownKnob Try.prog.godebug = none := by kernel_rfl
theorem laidOut : laidOutB Try.prog = true := by kernel_rfl

set_option maxHeartbeats 1000000 in
set_option maxRecDepth 100000 in
theorem walk (v0 : Value) (ns0 : List NoteL) (n1 : Int) (n2 : Int) (n3 : Int) (w : World) (hN0 : NotesR w v0 ns0) (hG0 : GoodN ns0) (hI1 : -9223372036854775808 ≤ n1 ∧ n1 ≤ 9223372036854775807) (hI2 : -9223372036854775808 ≤ n2 ∧ n2 ≤ 9223372036854775807) (hI3 : -9223372036854775808 ≤ n3 ∧ n3 ≤ 9223372036854775807) :
    Calls Try.prog 6 #[v0, .int .i64 n1, .int .i64 n2, .int .i64 n3] w fun e w' => e = .returned (.bool true) ∧ Below w.heap.size w w' := by
  have _u := hN0
  clear _u
  have _u := hG0
  clear _u
  have _u := hI1
  clear _u
  have _u := hI2
  clear _u
  have _u := hI3
  clear _u
  have HNN : Hid (NotesR w v0 ns0) := hN0
  have HGN : Hid (GoodN ns0) := hG0
  obtain ⟨la, lc, rfl, _, _, _⟩ := hN0
  clear hG0
  obtain ⟨hp1, hp2⟩ := pickF_bd n1 40 (by omega)
  obtain ⟨hp3, hp4⟩ := pickF_bd n2 40 (by omega)
  go_enter Try.func6, Try.ntmps6
  go_wp2_with fail
  refine (done_any _ ns0 _ HNN.out HGN.out).mono ?_
  rintro e w1 ⟨v1, fs, rfl, hd1, hi1, hb1⟩
  have D1 : Hid (DiskR w1 v1 fs) := hd1
  obtain ⟨da, dc, rfl, _, _, _, _⟩ := hd1
  obtain ⟨f1, f2, X, ee, a1, i1, l1, a2, i2, l2, a3, a4, a5, a6, a7⟩ := again_math (n := nmF n3) hi1 hp1 hp3
  have I0 : Hid (Inv fs 20 600) := hi1
  have I1 : Hid (Inv f1 20 600) := i1
  have I2 : Hid (Inv f2 20 600) := i2
  have L1 : Hid (f1.length = fs.length) := l1
  have L2 : Hid (f2.length = fs.length) := l2
  have A1 : Hid (chF fs (crashF fs (pickF n1 40)) = (f1, 0)) := by show _ = _; rw [chF, if_pos hi1.may]; exact a1
  have A2 : Hid (chF f1 (crashF f1 (pickF n2 40)) = (f2, 0)) := by show _ = _; rw [chF, if_pos i1.may]; exact a2
  have A3 : Hid (readF f1 (nmF n3) = (X, ee)) := a3
  have A4 : Hid (readF f2 (nmF n3) = (X, ee)) := a4
  have A5 : Hid ((readF fs (nmF n3)).2 = ee) := a5
  have A6 : Hid (0 < fs.length ∨ ee = 7) := a6
  have A7 : Hid (∀ x ∈ X, 0 ≤ x ∧ x ≤ 255) := a7
  have S0 : Hid (NewB w1 (w1.alloc (.cells #[.slice da fs.length dc] 26)) w1.heap.size (.slice da fs.length dc) fs) := ⟨below_alloc _ _, Nat.le_refl _, heap_alloc_new _ _, D1.out.below (below_alloc _ _) (Nat.le_refl _)⟩
  have B0 : Hid (Below w.heap.size w (w1.alloc (.cells #[.slice da fs.length dc] 26))) := hb1.alloc hb1.size _
  clear hi1 i1 i2 l1 l2 a1 a2 a3 a4 a5 a6 a7 hb1 D1
  go_wp2_with fail
  generalize w1.alloc (.cells #[.slice da fs.length dc] 26) = W0 at *
  generalize w1.heap.size = p at *
  have HS : Hid (∀ W', Below W0.heap.size W0 W' → W'.cell? ⟨p, 0, none⟩ = some (.slice da fs.length dc)) := fun W' hb => (S0.out.go hb).cell
  have HS2 : Hid (∀ W' x, Below W0.heap.size W0 W' → (W'.setCell ⟨W0.heap.size, 0, none⟩ x).cell? ⟨p, 0, none⟩ = some (.slice da fs.length dc)) := fun W' x hb => (S0.out.go (hb.setCell (p := ⟨W0.heap.size, 0, none⟩) (Nat.le_refl _) _)).cell
  have HD : Hid (∀ W', Below W0.heap.size W0 W' → DiskR W' (.slice da fs.length dc) fs) := fun W' hb => (S0.out.go hb).2.2.2
  have c0 : W0.cell? ⟨p, 0, none⟩ = some (.slice da fs.length dc) := HS.out _ (Below.refl _ _)
  apply Hid.cut
  case h =>
    intro HG
    go_region_held3 (fun V => V.cell? ⟨p, 0, none⟩ = some (.slice da fs.length dc)) (first | exact HS.out _ (Below.refl _ _).drew | exact HS.out _ (((Below.refl _ _).drew).alloc (by simp) _) | exact HS2.out _ _ C7.out | exact HS.out _ (C7.out.alloc C7.out.size _) | exact HS.out _ C7.out) (first
      | (go_at_call 15; refine (picked_any n1 40 _ hI1.1 hI1.2 (by omega) (by omega)).mono ?_; rintro e w6 ⟨rfl, rfl⟩)
      | (go_at_call 16; refine (diskCrash_any _ fs (pickF n1 40) _ ?_ I0.out.good ⟨by omega, by omega⟩).mono ?_
         (first | exact HD.out _ (Below.refl _ _).drew | exact HD.out _ (((Below.refl _ _).drew).alloc (by simp) _))
         rintro e w7 ⟨v7, rfl, hr7, hb7⟩
         have C7 : Hid (Below W0.heap.size W0 w7) := by (first | exact ((Below.refl _ _).drew).trans (hb7.mono (by simp)) | exact (((Below.refl _ _).drew).alloc (by simp) _).trans (hb7.mono (by simp)))
         try (have M7 : Hid (w7.heap[W0.heap.size]? = some (.cells #[.slice none 0 0] 26 (0, 0))) := (hb7.block W0.heap.size (by simp)).trans (heap_alloc_new W0.drew _))
         try (have m7 : w7.cell? ⟨W0.heap.size, 0, none⟩ = some (.slice none 0 0) := by (rw [cell_of_row w7 _ _ _ _ _ M7.out]; rfl))
         try (have z7 : w7.frozen? ⟨W0.heap.size, 0, none⟩ = false := by (simp only [World.frozen?, M7.out]; simp))
         rw [A1.out] at hr7 ⊢
         have R7 : Hid (DiskR w7 v7 f1) := hr7
         obtain ⟨va, vc, hv7⟩ : ∃ a c, v7 = .slice a fs.length c := by obtain ⟨a, c, h, _⟩ := hr7; exact ⟨a, c, by rw [← L1.out]; exact h⟩
         subst hv7
         clear hb7 hr7))
    all_goals rename_i hh
    all_goals clear hh
    all_goals first
      | (have NB : Hid (NewB W0 (w7.setCell ⟨W0.heap.size, 0, none⟩ (.slice va fs.length vc)) W0.heap.size (.slice va fs.length vc) f1) := ⟨C7.out.setCell (p := ⟨W0.heap.size, 0, none⟩) (Nat.le_refl _) _, Nat.le_refl _, heap_box_set _ M7.out, R7.out.setBox M7.out⟩
         obtain ⟨bb, hbb⟩ : ∃ bb, bb = W0.heap.size := ⟨_, rfl⟩
         have NC : Hid (NewB W0 (w7.setCell ⟨W0.heap.size, 0, none⟩ (.slice va fs.length vc)) bb (.slice va fs.length vc) f1) := by rw [hbb]; exact NB
         clear NB R7 C7 M7 m7 z7
         generalize w7.setCell ⟨W0.heap.size, 0, none⟩ (.slice va fs.length vc) = V at *
         rw [← hbb]
         clear hbb
         revert NC V bb va vc
         exact HG.out)
      | (have NB : Hid (NewB W0 (w7.alloc (.cells #[.slice va fs.length vc] 26)) w7.heap.size (.slice va fs.length vc) f1) := ⟨C7.out.alloc C7.out.size _, C7.out.size, heap_alloc_new _ _, R7.out.below (below_alloc _ _) (Nat.le_refl _)⟩
         obtain ⟨bb, hbb⟩ : ∃ bb, bb = w7.heap.size := ⟨_, rfl⟩
         have NC : Hid (NewB W0 (w7.alloc (.cells #[.slice va fs.length vc] 26)) bb (.slice va fs.length vc) f1) := by rw [hbb]; exact NB
         clear NB R7 C7
         generalize w7.alloc (.cells #[.slice va fs.length vc] 26) = V at *
         rw [← hbb]
         clear hbb
         revert NC V bb va vc
         exact HG.out)
  case g =>
    intro ga gc b1 W1 NS
    have S1 : Hid (NewB W0 W1 b1 (.slice ga fs.length gc) f1) := NS
    clear NS c0 HS HS2 HD
    go_wp2_with fail
    have HS : Hid (∀ W', Below W1.heap.size W1 W' → W'.cell? ⟨b1, 0, none⟩ = some (.slice ga fs.length gc)) := fun W' hb => (S1.out.go hb).cell
    have HS2 : Hid (∀ W' x, Below W1.heap.size W1 W' → (W'.setCell ⟨W1.heap.size, 0, none⟩ x).cell? ⟨b1, 0, none⟩ = some (.slice ga fs.length gc)) := fun W' x hb => (S1.out.go (hb.setCell (p := ⟨W1.heap.size, 0, none⟩) (Nat.le_refl _) _)).cell
    have HD : Hid (∀ W', Below W1.heap.size W1 W' → DiskR W' (.slice ga fs.length gc) f1) := fun W' hb => (S1.out.go hb).2.2.2
    have c0 : W1.cell? ⟨b1, 0, none⟩ = some (.slice ga fs.length gc) := HS.out _ (Below.refl _ _)
    apply Hid.cut
    case h =>
      intro HG
      go_region_held3 (fun V => V.cell? ⟨b1, 0, none⟩ = some (.slice ga fs.length gc)) (first | exact HS.out _ (Below.refl _ _).drew | exact HS.out _ (((Below.refl _ _).drew).alloc (by simp) _) | exact HS2.out _ _ C7.out | exact HS.out _ (C7.out.alloc C7.out.size _) | exact HS.out _ C7.out) (first
        | (go_at_call 15; refine (picked_any n2 40 _ hI2.1 hI2.2 (by omega) (by omega)).mono ?_; rintro e w6 ⟨rfl, rfl⟩)
        | (go_at_call 16; refine (diskCrash_any _ f1 (pickF n2 40) _ ?_ I1.out.good ⟨by omega, by omega⟩).mono ?_
           (first | exact HD.out _ (Below.refl _ _).drew | exact HD.out _ (((Below.refl _ _).drew).alloc (by simp) _))
           rintro e w7 ⟨v7, rfl, hr7, hb7⟩
           have C7 : Hid (Below W1.heap.size W1 w7) := by (first | exact ((Below.refl _ _).drew).trans (hb7.mono (by simp)) | exact (((Below.refl _ _).drew).alloc (by simp) _).trans (hb7.mono (by simp)))
           try (have M7 : Hid (w7.heap[W1.heap.size]? = some (.cells #[.slice none 0 0] 26 (0, 0))) := (hb7.block W1.heap.size (by simp)).trans (heap_alloc_new W1.drew _))
           try (have m7 : w7.cell? ⟨W1.heap.size, 0, none⟩ = some (.slice none 0 0) := by (rw [cell_of_row w7 _ _ _ _ _ M7.out]; rfl))
           try (have z7 : w7.frozen? ⟨W1.heap.size, 0, none⟩ = false := by (simp only [World.frozen?, M7.out]; simp))
           rw [A2.out] at hr7 ⊢
           have R7 : Hid (DiskR w7 v7 f2) := hr7
           obtain ⟨va, vc, hv7⟩ : ∃ a c, v7 = .slice a fs.length c := by obtain ⟨a, c, h, _⟩ := hr7; exact ⟨a, c, by rw [← L2.out]; exact h⟩
           subst hv7
           clear hb7 hr7))
      all_goals rename_i hh
      all_goals clear hh
      all_goals first
        | (have NB : Hid (NewB W1 (w7.setCell ⟨W1.heap.size, 0, none⟩ (.slice va fs.length vc)) W1.heap.size (.slice va fs.length vc) f2) := ⟨C7.out.setCell (p := ⟨W1.heap.size, 0, none⟩) (Nat.le_refl _) _, Nat.le_refl _, heap_box_set _ M7.out, R7.out.setBox M7.out⟩
           obtain ⟨bb, hbb⟩ : ∃ bb, bb = W1.heap.size := ⟨_, rfl⟩
           have NC : Hid (NewB W1 (w7.setCell ⟨W1.heap.size, 0, none⟩ (.slice va fs.length vc)) bb (.slice va fs.length vc) f2) := by rw [hbb]; exact NB
           clear NB R7 C7 M7 m7 z7
           generalize w7.setCell ⟨W1.heap.size, 0, none⟩ (.slice va fs.length vc) = V at *
           rw [← hbb]
           clear hbb
           revert NC V bb va vc
           exact HG.out)
        | (have NB : Hid (NewB W1 (w7.alloc (.cells #[.slice va fs.length vc] 26)) w7.heap.size (.slice va fs.length vc) f2) := ⟨C7.out.alloc C7.out.size _, C7.out.size, heap_alloc_new _ _, R7.out.below (below_alloc _ _) (Nat.le_refl _)⟩
           obtain ⟨bb, hbb⟩ : ∃ bb, bb = w7.heap.size := ⟨_, rfl⟩
           have NC : Hid (NewB W1 (w7.alloc (.cells #[.slice va fs.length vc] 26)) bb (.slice va fs.length vc) f2) := by rw [hbb]; exact NB
           clear NB R7 C7
           generalize w7.alloc (.cells #[.slice va fs.length vc] 26) = V at *
           rw [← hbb]
           clear hbb
           revert NC V bb va vc
           exact HG.out)
    case g =>
      intro ka kc b2 W2 NS
      have S2 : Hid (NewB W1 W2 b2 (.slice ka fs.length kc) f2) := NS
      clear NS c0 HS HS2 HD
      have TA : Hid (NewB W0 W2 b1 (.slice ga fs.length gc) f1) := S1.out.go S2.out.1
      have B01 : Hid (Below W0.heap.size W0 W2) := S1.out.1.trans (S2.out.1.mono S1.out.1.size)
      have TD : Hid (NewB w1 W2 p (.slice da fs.length dc) fs) := S0.out.go B01.out
      have B2 : Hid (Below w.heap.size w W2) := B0.out.trans (B01.out.mono B0.out.size)
      clear S0 S1 B0 B01
      go_wp2_with fail
      have HS : Hid (∀ W', Below W2.heap.size W2 W' → W'.cell? ⟨b1, 0, none⟩ = some (.slice ga fs.length gc)) := fun W' hb => (TA.out.go hb).cell
      go_region_held3 (fun V => V.cell? ⟨b1, 0, none⟩ = some (.slice ga fs.length gc)) (first | exact HS.out _ (Below.refl _ _).drew | exact HS.out _ C7.out | exact HS.out _ C6.out) (first
          | (go_at_call 11; refine (name_any n3 _ hI3.1 hI3.2).mono ?_; rintro e w6 ⟨rfl, hb6⟩
             have C6 : Hid (Below W2.heap.size W2 w6) := ((Below.refl _ _).drew).trans (hb6.mono (by simp))
             clear hb6)
          | (go_at_call 10; refine (read_any _ f1 (nmF n3) _ ?_ I1.out.good).mono ?_
             exact (TA.out.go C6.out).2.2.2
             rintro e W3 ⟨v7, rfl, hr7, hb7⟩
             have C7 : Hid (Below W2.heap.size W2 W3) := C6.out.trans (hb7.mono C6.out.size)
             rw [A3.out] at hr7 ⊢
             have RX3 : Hid (Reads .u8 W3 v7 X) := hr7
             obtain ⟨xa, xc, hv7⟩ : ∃ a c, v7 = .slice a (X).length c := by obtain ⟨a, c, h, _⟩ := hr7; exact ⟨a, c, h⟩
             subst hv7
             clear hb7 hr7))
      have UA : Hid (NewB W0 W3 b1 (.slice ga fs.length gc) f1) := TA.out.go C7.out
      have UB : Hid (NewB W1 W3 b2 (.slice ka fs.length kc) f2) := S2.out.go C7.out
      have UD : Hid (NewB w1 W3 p (.slice da fs.length dc) fs) := TD.out.go C7.out
      have B3 : Hid (Below w.heap.size w W3) := B2.out.trans (C7.out.mono B2.out.size)
      clear HS C6 C7 TA S2 TD B2
      go_wp2_with fail
      have HS : Hid (∀ W', Below W3.heap.size W3 W' → W'.cell? ⟨b2, 0, none⟩ = some (.slice ka fs.length kc)) := fun W' hb => (UB.out.go hb).cell
      go_region_held3 (fun V => V.cell? ⟨b2, 0, none⟩ = some (.slice ka fs.length kc)) (first | exact HS.out _ (Below.refl _ _).drew | exact HS.out _ C7.out | exact HS.out _ C6.out) (first
          | (go_at_call 11; refine (name_any n3 _ hI3.1 hI3.2).mono ?_; rintro e w6 ⟨rfl, hb6⟩
             have C6 : Hid (Below W3.heap.size W3 w6) := ((Below.refl _ _).drew).trans (hb6.mono (by simp))
             clear hb6)
          | (go_at_call 10; refine (read_any _ f2 (nmF n3) _ ?_ I2.out.good).mono ?_
             exact (UB.out.go C6.out).2.2.2
             rintro e W4 ⟨v7, rfl, hr7, hb7⟩
             have C7 : Hid (Below W3.heap.size W3 W4) := C6.out.trans (hb7.mono C6.out.size)
             rw [A4.out] at hr7 ⊢
             have RY4 : Hid (Reads .u8 W4 v7 X) := hr7
             obtain ⟨ya, yc, hv7⟩ : ∃ a c, v7 = .slice a (X).length c := by obtain ⟨a, c, h, _⟩ := hr7; exact ⟨a, c, h⟩
             subst hv7
             clear hb7 hr7))
      have VA : Hid (NewB W0 W4 b1 (.slice ga fs.length gc) f1) := UA.out.go C7.out
      have VB : Hid (NewB W1 W4 b2 (.slice ka fs.length kc) f2) := UB.out.go C7.out
      have VD : Hid (NewB w1 W4 p (.slice da fs.length dc) fs) := UD.out.go C7.out
      have RX4 : Hid (Reads .u8 W4 (.slice xa X.length xc) X) := RX3.out.below C7.out (Nat.le_refl _)
      have B4 : Hid (Below w.heap.size w W4) := B3.out.trans (C7.out.mono B3.out.size)
      clear HS C6 C7 UA UB UD RX3 B3
      go_wp2_with fail
      have HS : Hid (∀ W', Below W4.heap.size W4 W' → W'.cell? ⟨p, 0, none⟩ = some (.slice da fs.length dc)) := fun W' hb => (VD.out.go hb).cell
      go_region_held3 (fun V => V.cell? ⟨p, 0, none⟩ = some (.slice da fs.length dc)) (first | exact HS.out _ (Below.refl _ _).drew | exact HS.out _ C7.out | exact HS.out _ C6.out) (first
          | (go_at_call 11; refine (name_any n3 _ hI3.1 hI3.2).mono ?_; rintro e w6 ⟨rfl, hb6⟩
             have C6 : Hid (Below W4.heap.size W4 w6) := ((Below.refl _ _).drew).trans (hb6.mono (by simp))
             clear hb6)
          | (go_at_call 10; refine (read_any _ fs (nmF n3) _ ?_ I0.out.good).mono ?_
             exact (VD.out.go C6.out).2.2.2
             rintro e W5 ⟨v7, rfl, hr7, hb7⟩
             have C7 : Hid (Below W4.heap.size W4 W5) := C6.out.trans (hb7.mono C6.out.size)
             rw [A5.out]
             have RZ5 : Hid (Reads .u8 W5 v7 (readF fs (nmF n3)).1) := hr7
             obtain ⟨za, zc, hv7⟩ : ∃ a c, v7 = .slice a ((readF fs (nmF n3)).1).length c := by obtain ⟨a, c, h, _⟩ := hr7; exact ⟨a, c, h⟩
             subst hv7
             clear hb7 hr7))
      have YA : Hid (NewB W0 W5 b1 (.slice ga fs.length gc) f1) := VA.out.go C7.out
      have YB : Hid (NewB W1 W5 b2 (.slice ka fs.length kc) f2) := VB.out.go C7.out
      have YD : Hid (NewB w1 W5 p (.slice da fs.length dc) fs) := VD.out.go C7.out
      have RX5 : Hid (Reads .u8 W5 (.slice xa X.length xc) X) := RX4.out.below C7.out (Nat.le_refl _)
      have RY5 : Hid (Reads .u8 W5 (.slice ya X.length yc) X) := RY4.out.below C7.out (Nat.le_refl _)
      have B5 : Hid (Below w.heap.size w W5) := B4.out.trans (C7.out.mono B4.out.size)
      clear HS C6 C7 VA VB VD RX4 RY4 B4 RZ5
      have ca := YA.out.cell
      have cb := YB.out.cell
      have cd := YD.out.cell
      have e0 : ((0 : Int) == 0) = true := rfl
      have e1 : (ee == ee) = true := by simp
      have e2 : ((fs.length : Int) == (fs.length : Int)) = true := by simp
      generalize (readF fs (nmF n3)).1.length = zl at *
      by_cases hn : 0 < fs.length
      · have hn' : (0 : Int) < (fs.length : Int) := by omega
        go_wp2_with fail
        refine (sameBytes_yes _ _ X _ RX5.out RY5.out A7.out).mono ?_
        rintro e w10 ⟨rfl, rfl⟩
        go_wp2_with fail
        go_ret
        exact ⟨ret_bool (by simp), B5.out⟩
      · have hn' : ¬ (0 : Int) < (fs.length : Int) := by omega
        have e7 : (ee == 7) = true := by
          rcases A6.out with h | h
          · exact absurd h hn
          · rw [h]; rfl
        go_wp2_with fail
        refine (sameBytes_yes _ _ X _ RX5.out RY5.out A7.out).mono ?_
        rintro e w10 ⟨rfl, rfl⟩
        go_wp2_with fail
        go_ret
        exact ⟨ret_bool (by simp), B5.out⟩

set_option maxHeartbeats 400000 in
set_option maxRecDepth 100000 in
theorem lifted (os : Os) (started : os.Started) (H : Type) (enc : TypeId × Value → H) :
    ReturnsInHanded {} Try.checked os 6 .any (Rows.crashAgainSpec.pre6 enc Try.prog Try.f6 Rows.crashAgainRow.domain false) (Rows.crashAgainSpec.post enc Try.prog Try.f6 false true false false) := by
  refine returnsInHanded_of_change_sized (C := Try.checked) own started (by kernel_rfl) Try.func6
    (ChangeSpec.witness6 (enc := enc) (C := Try.checked) false ⟨#[], #[.slice none 0 0, .int .i64 0, .int .i64 0, .int .i64 0], []⟩ 8 (by kernel_rfl) (by kernel_rfl) (by kernel_rfl) (by kernel_rfl)) ?_
  intro W base args ds gs before hval0 hW _ hsz0 _
  have hval : ∀ (j : Nat) t v, Try.f6.params[j]? = some t → args[j]? = some v → Value.okWide Try.prog W .any base t v := hval0
  have hW' := hW
  obtain ⟨p, q, hA0, hV, rfl, hfz, hnd⟩ := hW
  have hA : DataW.TrodAll enc Try.prog W 0 (fun _ => true) true Try.f6.params.toList args.toList ds p := hA0
  have hsz : (DataW.weightsEach Try.prog (Try.f6.params.toList ++ Rows.crashAgainSpec.plain.varTypes Try.prog) (ds ++ gs)).all (fun x => decide (x ≤ reachBytes)) = true := hsz0
  rw [Try.params6] at hA hval hsz
  obtain ⟨v0, vs0, d0, ds0, p0, q0, hargs, rfl, rfl, h0, r0⟩ := trodAll_cons hA
  obtain ⟨v1, vs1, d1, ds1, p1, q1, rfl, rfl, rfl, h1, r1⟩ := trodAll_cons r0
  obtain ⟨v2, vs2, d2, ds2, p2, q2, rfl, rfl, rfl, h2, r2⟩ := trodAll_cons r1
  obtain ⟨v3, vs3, d3, ds3, p3, q3, rfl, rfl, rfl, h3, r3⟩ := trodAll_cons r2
  obtain ⟨rfl, rfl, rfl⟩ := trodAll_nil r3
  obtain rfl : args = #[v0, v1, v2, v3] := by cases args; simp_all
  obtain ⟨rfl, rfl⟩ := trodVars_none hV
  have k0 := h0
  have lt0 : ∀ x ∈ p0, x.block < W.heap.size := by obtain ⟨m, hm⟩ := k0; exact DataW.trod_lt m _ _ _ hm
  have k1 := h1
  have lt1 : ∀ x ∈ p1, x.block < W.heap.size := by obtain ⟨m, hm⟩ := k1; exact DataW.trod_lt m _ _ _ hm
  have k2 := h2
  have lt2 : ∀ x ∈ p2, x.block < W.heap.size := by obtain ⟨m, hm⟩ := k2; exact DataW.trod_lt m _ _ _ hm
  have k3 := h3
  have lt3 : ∀ x ∈ p3, x.block < W.heap.size := by obtain ⟨m, hm⟩ := k3; exact DataW.trod_lt m _ _ _ hm
  obtain ⟨ns0, hN0, hG0⟩ := open_notes (okWide_slice Try.underlying22 (hval 0 22 v0 rfl rfl)) h0
  obtain ⟨n1, rfl, _, _, wf1⟩ := open_int Try.underlying3 (hval 1 3 v1 rfl rfl) h1
  have hI1 := bounds_i64 wf1
  obtain ⟨n2, rfl, _, _, wf2⟩ := open_int Try.underlying3 (hval 2 3 v2 rfl rfl) h2
  have hI2 := bounds_i64 wf2
  obtain ⟨n3, rfl, _, _, wf3⟩ := open_int Try.underlying3 (hval 3 3 v3 rfl rfl) h3
  have hI3 := bounds_i64 wf3
  clear hA0 hval0
  refine (walk v0 ns0 n1 n2 n3 W hN0 hG0 hI1 hI2 hI3).mono fun e W' ⟨he, bel⟩ => ?_
  subst he
  exact ⟨_, rfl, _, _, _, [], _, [], hW', trodAll_mk1 (shut_bool Try.underlying4 _), (trodAll_cons_mk (Below.trod laidOut (by kernel_rfl) (of_decide_eq_true (by kernel_rfl)) k0 bel lt0) (trodAll_cons_mk (Below.trod laidOut (by kernel_rfl) (of_decide_eq_true (by kernel_rfl)) k1 bel lt1) (trodAll_cons_mk (Below.trod laidOut (by kernel_rfl) (of_decide_eq_true (by kernel_rfl)) k2 bel lt2) (trodAll_cons_mk (Below.trod laidOut (by kernel_rfl) (of_decide_eq_true (by kernel_rfl)) k3 bel lt3) trodAll_mk0)))), rfl, bel.frame _, fun h => by cases h⟩

theorem over : Rows.crashAgainRow.holds Try.pinned (OpenSpec.ofChange Rows.crashAgainSpec) :=
  OpenClaim.holds_of_wide 6 Try.f6 rfl rfl rfl rfl rfl rfl rfl ⟨rfl, rfl, rfl, rfl, rfl⟩ rfl rfl rfl rfl rfl (by kernel_rfl) Try.func6 (by kernel_rfl)
    (of_decide_eq_true (by kernel_rfl)) (by unfold Func.isWrapper; first | (rw [if_pos (by decide +kernel)]; kernel_rfl) | (rw [if_neg (by decide +kernel)]; exact ⟨rfl, rfl⟩))
    (fun os started H enc _ => lifted os started H enc)

/-- The statement. -/
theorem proved : Rows.CrashAgainSaid := over
#print axioms proved
end Go.Proofs.Ytdhaccljidhdcab.crashAgain
