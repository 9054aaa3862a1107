/-
  Syncing one file changes no other, nor any file's data; syncing it again does nothing more, whatever the notes, the two names and the number (the law SyncAlone returns true, and its arguments read as before); no condition.
-/
import Derived.Test.YtdhaccljidhdcabDoneWalk
import Derived.Test.YtdhaccljidhdcabLawSame
import Derived.Test.YtdhaccljidhdcabDiskOpen
import Derived.WalkKit
import Derived.ProofKit
import Derived.OpenShut
import Derived.ShutString
import Derived.SizedLaws
import Derived.ChangeOld
import Derived.Below
namespace Go.Proofs.Ytdhaccljidhdcab.syncAlone
open Go.ChangeShapes Go.WideShapes Go.ChangeAt Go.RowKit

theorem own : ownKnob Try.prog.godebug = none := by kernel_rfl
theorem laidOut : laidOutB Try.prog = true := by kernel_rfl

set_option maxHeartbeats 1000000 in
set_option maxRecDepth 100000 in
theorem walk (v0 : Value) (ns0 : List NoteL) (n1 : Int) (n2 : Int) (n3 : Int) (w : World) (hN0 : NotesR w v0 ns0) (hG0 : GoodN ns0) (hI1 : -9223372036854775808 ≤ n1 ∧ n1 ≤ 9223372036854775807) (hI2 : -9223372036854775808 ≤ n2 ∧ n2 ≤ 9223372036854775807) (hI3 : -9223372036854775808 ≤ n3 ∧ n3 ≤ 9223372036854775807) :
    Calls Try.prog 5 #[v0, .int .i64 n1, .int .i64 n2, .int .i64 n3] w fun e w' => e = .returned (.bool true) ∧ Below w.heap.size w w' := by
  have _u := hN0
  clear _u
  have _u := hG0
  clear _u
  have _u := hI1
  clear _u
  have _u := hI2
  clear _u
  have _u := hI3
  clear _u
  have HNN : Hid (NotesR w v0 ns0) := hN0
  have HGN : Hid (GoodN ns0) := hG0
  obtain ⟨la, lc, rfl, _, _, _⟩ := hN0
  clear hG0
  go_enter Try.func5, Try.ntmps5
  go_wp2_with fail
  refine (done_any _ ns0 _ HNN.out HGN.out).mono ?_
  rintro e w1 ⟨v1, fs, rfl, hd1, hi1, hb1⟩
  have D1 : Hid (DiskR w1 v1 fs) := hd1
  have I1 : Hid (Inv fs 20 600) := hi1
  have B1 : Hid (Below w.heap.size w w1) := hb1
  have hs1 := hb1.size
  obtain ⟨da, dc, rfl, _, _, _, _⟩ := hd1
  clear hb1 hi1
  go_wp2_with fail
  refine (name_any n1 _ hI1.1 hI1.2).mono ?_
  rintro e w2 ⟨rfl, hb2⟩
  have BX2 : Hid (Below (w1.heap.size + 1) (w1.alloc (.cells #[.slice da fs.length dc] 26)) w2) := by simpa [Hid] using hb2
  have hs2 : w1.heap.size + 1 ≤ w2.heap.size := by have := BX2.out.size; simpa using this
  clear hb2
  go_wp2_with fail
  refine (name_any n2 _ hI2.1 hI2.2).mono ?_
  rintro e w3 ⟨rfl, hb3⟩
  have BX3 : Hid (Below (w1.heap.size + 1) (w1.alloc (.cells #[.slice da fs.length dc] 26)) w3) := BX2.out.trans (hb3.mono hs2)
  have hs3 := hb3.size
  have d3 := box_cell BX3.out
  have D3 : Hid (DiskR w3 (.slice da fs.length dc) fs) := D1.out.below (box_below BX3.out) (Nat.le_refl _)
  clear hb3
  have HCH : Hid (chF fs (syncF fs (nmF n1)) = syncF fs (nmF n1)) := by show _ = _; simp [chF, I1.out.may]
  go_wp2_with fail
  refine (diskSync_any _ fs (nmF n1) _ D3.out I1.out.good).mono ?_
  rintro e w4 ⟨v4, rfl, hr4, hb4⟩
  rw [HCH.out] at hr4 ⊢
  have BX4 : Hid (Below (w1.heap.size + 1) (w1.alloc (.cells #[.slice da fs.length dc] 26)) w4) := BX3.out.trans (hb4.mono (by omega))
  have hs4 := hb4.size
  clear hb4 d3
  have dB : ∀ W', Below w4.heap.size w4 W' → W'.cell? ⟨w1.heap.size, 0, none⟩ = some (.slice da fs.length dc) := fun W' hb => box_cell (BX4.out.trans (hb.mono (by omega)))
  have dR : ∀ W', Below w4.heap.size w4 W' → DiskR W' (.slice da fs.length dc) fs := fun W' hb => D1.out.below ((box_below BX4.out).trans (hb.mono (by omega))) (Nat.le_refl _)
  have HDB : Hid (∀ W', Below w4.heap.size w4 W' → W'.cell? ⟨w1.heap.size, 0, none⟩ = some (.slice da fs.length dc)) := dB
  have HDR : Hid (∀ W', Below w4.heap.size w4 W' → DiskR W' (.slice da fs.length dc) fs) := dR
  have HBB : Hid (∀ W', Below w4.heap.size w4 W' → Below w.heap.size w W') := fun W' hb => B1.out.trans (((box_below BX4.out).trans (hb.mono (by omega))).mono hs1)
  clear dB dR
  have d4 := HDB.out (w4.alloc (.cells #[v4] 26)) (below_alloc _ _)
  cases hlk : lk fs (nmF n1) with
  | none =>
    have e1 : syncF fs (nmF n1) = ([], 7) := sync_no hlk
    have HRD : Hid (readF fs (nmF n1) = ([], 7)) := by show _ = _; rw [readF_lk I1.out.may, hlk]; rfl
    rw [e1] at hr4 ⊢
    obtain ⟨va, vc, hv5, _, _, _, _⟩ := hr4
    have hv6 : v4 = .slice va 0 vc := hv5
    subst hv6
    clear hv5 hlk e1
    have e70 : ((7 : Int) != 0) = true := rfl
    have e77 : ((7 : Int) == 7) = true := rfl
    go_wp2_with fail
    refine (read_any _ fs (nmF n1) _ (HDR.out _ (below_alloc _ _)) I1.out.good).mono ?_
    rintro e w5 ⟨v5, rfl, hr5, hb5⟩
    rw [HRD.out] at hr5 ⊢
    have BS5 : Below (w4.heap.size + 1) (w4.alloc (.cells #[.slice va 0 vc] 26)) w5 := by simpa using hb5
    have s5 := box_cell BS5
    have B5 : Hid (Below w.heap.size w w5) := HBB.out _ (box_below BS5)
    obtain ⟨ya, yc, hv5, _, _, _, _⟩ := hr5
    have hv6 : v5 = .slice ya 0 yc := hv5
    subst hv6
    clear hb5 BS5 hv5
    go_wp2_with fail
    go_ret
    exact ⟨ret_bool (by simp), B5.out⟩
  | some f =>
    obtain ⟨fs2, e1, i2, hl2, hpos, hlk2⟩ := sync_does I1.out hlk
    obtain ⟨hp1, hp2⟩ := pickF_bd n3 40 (by omega)
    obtain ⟨fs3, e3, i3, hl3, hlk3⟩ := crash_does I1.out hp1
    obtain ⟨fs4, e4, i4, hl4, hlk4⟩ := crash_does i2 hp1
    have I2 : Hid (Inv fs2 20 600) := i2
    have I3 : Hid (Inv fs3 20 600) := i3
    have I4 : Hid (Inv fs4 20 600) := i4
    have C3 : Hid (chF fs (crashF fs (pickF n3 40)) = (fs3, 0)) := by show _ = _; simp only [chF, I1.out.may, if_true]; exact e3
    have C4 : Hid (chF fs2 (crashF fs2 (pickF n3 40)) = (fs4, 0)) := by show _ = _; simp only [chF, i2.may, if_true]; exact e4
    have hok : f.synced ≤ f.data.length := by
      rcases lk_cases (L := fs) (nmF n1) with ⟨i, hi, _, e9⟩ | ⟨_, e9⟩
      · rw [e9] at hlk; injection hlk with hlk; rw [← hlk]; exact (ok_iff.1 ((may_iff.1 I1.out.may).2.1 i hi)).2.2.2
      · rw [e9] at hlk; cases hlk
    have Fxy : Hid (readF fs2 (nmF n2) = readF fs (nmF n2)) := by
      show _ = _
      rw [readF_lk i2.may, readF_lk I1.out.may, hlk2]
      by_cases h9 : nmF n1 = nmF n2
      · rw [if_pos h9, ← h9, hlk]; rfl
      · rw [if_neg h9]
    have Fe : Hid ((readF fs4 (nmF n2)).2 = (readF fs3 (nmF n2)).2) := by
      show _ = _
      rw [readF_lk i4.may, readF_lk i3.may, hlk4, hlk3, hlk2]
      by_cases h9 : nmF n1 = nmF n2
      · rw [if_pos h9, ← h9, hlk]; rfl
      · rw [if_neg h9]
    have Fne : Hid (nmF n1 ≠ nmF n2 → readF fs4 (nmF n2) = readF fs3 (nmF n2)) := fun h9 => by
      rw [readF_lk i4.may, readF_lk i3.may, hlk4, hlk3, hlk2, if_neg h9]
    have Fa : Hid (readF fs (nmF n1) = (f.data, 0)) := by show _ = _; rw [readF_lk I1.out.may, hlk]; rfl
    have Fn : Hid (readF fs4 (nmF n1) = (f.data, 0)) := by
      show _ = _
      rw [readF_lk i4.may, hlk4, hlk2, if_pos rfl]
      show ((f.data.take (endF (pickF n3 40) { f with synced := (f.data.length : Int) }).toNat), (0 : Int)) = _
      rw [List.take_of_length_le (by unfold endF; simp only; omega)]
    have BYx : Hid (∀ x ∈ (readF fs (nmF n2)).1, 0 ≤ x ∧ x ≤ 255) := readF_bytes I1.out.good
    have BYu : Hid (∀ x ∈ (readF fs3 (nmF n2)).1, 0 ≤ x ∧ x ≤ 255) := readF_bytes i3.good
    have BYf : Hid (∀ x ∈ f.data, 0 ≤ x ∧ x ≤ 255) := by have := readF_bytes (n := nmF n1) I1.out.good; rw [Fa.out] at this; exact this
    rw [e1] at hr4 ⊢
    have R4 : Hid (DiskR w4 v4 fs2) := hr4
    obtain ⟨va, vc, hv5, _, _, _, _⟩ := hr4
    have hv6 : v4 = .slice va fs2.length vc := hv5
    subst hv6
    clear hv5 e1 e3 e4 i2 i3 i4 hlk hlk2 hlk3 hlk4 hl2 hl3 hl4
    have e00 : ((0 : Int) != 0) = false := rfl
    have e000 : ((0 : Int) == 0) = true := rfl
    have hp0 : (0 : Int) < (fs2.length : Int) := by omega
    go_wp2_with fail
    refine (read_any _ fs (nmF n2) _ (HDR.out _ (below_alloc _ _)) I1.out.good).mono ?_
    rintro e w5 ⟨v5, rfl, hr5, hb5⟩
    have BS5 : Hid (Below (w4.heap.size + 1) (w4.alloc (.cells #[.slice va fs2.length vc] 26)) w5) := by simpa [Hid] using hb5
    have hs5 : w4.heap.size + 1 ≤ w5.heap.size := by have := BS5.out.size; simpa using this
    have s5 := box_cell BS5.out
    have R5 : Hid (Reads .u8 w5 v5 (readF fs (nmF n2)).1) := hr5
    obtain ⟨xa, xc, rfl, _, _, _, _⟩ := hr5
    clear hb5
    go_wp2_with fail
    refine (read_any _ fs2 (nmF n2) _ (R4.out.below (box_below BS5.out) (Nat.le_refl _)) I2.out.good).mono ?_
    rintro e w6 ⟨v6, rfl, hr6, hb6⟩
    rw [Fxy.out] at hr6 ⊢
    have BS6 : Hid (Below (w4.heap.size + 1) (w4.alloc (.cells #[.slice va fs2.length vc] 26)) w6) := BS5.out.trans (hb6.mono hs5)
    have hs6 := hb6.size
    have s6 := box_cell BS6.out
    have d6 := HDB.out w6 (box_below BS6.out)
    have R56 : Hid (Reads .u8 w6 (.slice xa (readF fs (nmF n2)).1.length xc) (readF fs (nmF n2)).1) := R5.out.below hb6 (Nat.le_refl _)
    have R6 : Hid (Reads .u8 w6 v6 (readF fs (nmF n2)).1) := hr6
    obtain ⟨ya, yc, rfl, _, _, _, _⟩ := hr6
    clear hb6 R5
    go_wp2_with fail
    refine (picked_any n3 40 _ hI3.1 hI3.2 (by omega) (by omega)).mono ?_
    rintro e w6' ⟨rfl, rfl⟩
    go_wp2_with fail
    refine (diskCrash_any _ fs (pickF n3 40) _ (HDR.out _ (box_below BS6.out)) I1.out.good ⟨by omega, by omega⟩).mono ?_
    rintro e w7 ⟨v7, rfl, hr7, hb7⟩
    rw [C3.out] at hr7 ⊢
    have BS7 : Hid (Below (w4.heap.size + 1) (w4.alloc (.cells #[.slice va fs2.length vc] 26)) w7) := BS6.out.trans (hb7.mono (by omega))
    have hs7 := hb7.size
    have X7 : Hid (Reads .u8 w7 (.slice xa (readF fs (nmF n2)).1.length xc) (readF fs (nmF n2)).1) := R56.out.below hb7 (Nat.le_refl _)
    have Y7 : Hid (Reads .u8 w7 (.slice ya (readF fs (nmF n2)).1.length yc) (readF fs (nmF n2)).1) := R6.out.below hb7 (Nat.le_refl _)
    have R7 : Hid (DiskR w7 v7 fs3) := hr7
    obtain ⟨oa, oc, hv7, _, _, _, _⟩ := hr7
    have hv8 : v7 = .slice oa fs3.length oc := hv7
    subst hv8
    have s7 := box_cell (BS7.out.alloc (by omega) (.cells #[.slice oa fs3.length oc] 26))
    clear hb7 hv7 R56 R6 s6 d6
    go_wp2_with fail
    refine (diskCrash_any _ fs2 (pickF n3 40) _ (R4.out.below (box_below (BS7.out.alloc (by omega) _)) (Nat.le_refl _)) I2.out.good ⟨by omega, by omega⟩).mono ?_
    rintro e w8 ⟨v8, rfl, hr8, hb8⟩
    rw [C4.out] at hr8 ⊢
    have BO8 : Hid (Below (w7.heap.size + 1) (w7.alloc (.cells #[.slice oa fs3.length oc] 26)) w8) := by simpa [Hid] using hb8
    have hs8 : w7.heap.size + 1 ≤ w8.heap.size := by have := BO8.out.size; simpa using this
    have R8 : Hid (DiskR w8 v8 fs4) := hr8
    obtain ⟨na, nc, hv8, _, _, _, _⟩ := hr8
    have hv9 : v8 = .slice na fs4.length nc := hv8
    subst hv9
    have o8 := box_cell (BO8.out.alloc (by omega) (.cells #[.slice na fs4.length nc] 26))
    clear hb8 hv8 s7
    go_wp2_with fail
    refine (read_any _ fs3 (nmF n2) _ (R7.out.below (box_below (BO8.out.alloc (by omega) _)) (Nat.le_refl _)) I3.out.good).mono ?_
    rintro e w9 ⟨v9, rfl, hr9, hb9⟩
    have BN9 : Hid (Below (w8.heap.size + 1) (w8.alloc (.cells #[.slice na fs4.length nc] 26)) w9) := by simpa [Hid] using hb9
    have hs9 : w8.heap.size + 1 ≤ w9.heap.size := by have := BN9.out.size; simpa using this
    have n9 := box_cell BN9.out
    have R9 : Hid (Reads .u8 w9 v9 (readF fs3 (nmF n2)).1) := hr9
    obtain ⟨ua, uc, rfl, _, _, _, _⟩ := hr9
    clear hb9 o8
    go_wp2_with fail
    refine (read_any _ fs4 (nmF n2) _ (R8.out.below (box_below BN9.out) (Nat.le_refl _)) I4.out.good).mono ?_
    rintro e w10 ⟨v10, rfl, hr10, hb10⟩
    have BN10 : Hid (Below (w8.heap.size + 1) (w8.alloc (.cells #[.slice na fs4.length nc] 26)) w10) := BN9.out.trans (hb10.mono hs9)
    have hs10 := hb10.size
    have n10 := box_cell BN10.out
    have U10 : Hid (Reads .u8 w10 (.slice ua (readF fs3 (nmF n2)).1.length uc) (readF fs3 (nmF n2)).1) := R9.out.below hb10 (Nat.le_refl _)
    have R10 : Hid (Reads .u8 w10 v10 (readF fs4 (nmF n2)).1) := hr10
    obtain ⟨ta, tn, tc, rfl⟩ : ∃ a n c, v10 = .slice a n c := by obtain ⟨a, c, h, _⟩ := hr10; exact ⟨_, _, _, h⟩
    rw [Fe.out]
    clear hb10 hr10 n9 R9
    go_wp2_with fail
    refine (read_any _ fs4 (nmF n1) _ (R8.out.below (box_below BN10.out) (Nat.le_refl _)) I4.out.good).mono ?_
    rintro e w11 ⟨v11, rfl, hr11, hb11⟩
    rw [Fn.out] at hr11 ⊢
    have hs11 := hb11.size
    have BN11 : Hid (Below (w8.heap.size + 1) (w8.alloc (.cells #[.slice na fs4.length nc] 26)) w11) := BN10.out.trans (hb11.mono (by omega))
    have U11 : Hid (Reads .u8 w11 (.slice ua (readF fs3 (nmF n2)).1.length uc) (readF fs3 (nmF n2)).1) := U10.out.below hb11 (Nat.le_refl _)
    have T11 : Hid (Reads .u8 w11 (.slice ta tn tc) (readF fs4 (nmF n2)).1) := R10.out.below hb11 (Nat.le_refl _)
    have R11 : Hid (Reads .u8 w11 v11 f.data) := hr11
    obtain ⟨wa, wn, wc, rfl⟩ : ∃ a n c, v11 = .slice a n c := by obtain ⟨a, c, h, _⟩ := hr11; exact ⟨_, _, _, h⟩
    have B711 : Hid (Below w7.heap.size w7 w11) := (box_below BO8.out).trans ((box_below BN11.out).mono (by omega))
    have BS11 : Hid (Below (w4.heap.size + 1) (w4.alloc (.cells #[.slice va fs2.length vc] 26)) w11) := BS7.out.trans (B711.out.mono (by omega))
    have d11 := HDB.out w11 (box_below BS11.out)
    clear hb11 hr11 n10 U10 R10
    go_wp2_with fail
    refine (read_any _ fs (nmF n1) _ (HDR.out _ (box_below BS11.out)) I1.out.good).mono ?_
    rintro e w12 ⟨v12, rfl, hr12, hb12⟩
    rw [Fa.out] at hr12 ⊢
    have BS12 : Hid (Below (w4.heap.size + 1) (w4.alloc (.cells #[.slice va fs2.length vc] 26)) w12) := BS11.out.trans (hb12.mono (by omega))
    have s12 := box_cell BS12.out
    have B12 : Hid (Below w.heap.size w w12) := HBB.out w12 (box_below BS12.out)
    have B712 : Hid (Below w7.heap.size w7 w12) := B711.out.trans (hb12.mono (by omega))
    have X12 : Hid (Reads .u8 w12 (.slice xa (readF fs (nmF n2)).1.length xc) (readF fs (nmF n2)).1) := X7.out.below B712.out (Nat.le_refl _)
    have Y12 : Hid (Reads .u8 w12 (.slice ya (readF fs (nmF n2)).1.length yc) (readF fs (nmF n2)).1) := Y7.out.below B712.out (Nat.le_refl _)
    have U12 : Hid (Reads .u8 w12 (.slice ua (readF fs3 (nmF n2)).1.length uc) (readF fs3 (nmF n2)).1) := U11.out.below hb12 (Nat.le_refl _)
    have T12 : Hid (Reads .u8 w12 (.slice ta tn tc) (readF fs4 (nmF n2)).1) := T11.out.below hb12 (Nat.le_refl _)
    have W12 : Hid (Reads .u8 w12 (.slice wa wn wc) f.data) := R11.out.below hb12 (Nat.le_refl _)
    have R12 : Hid (Reads .u8 w12 v12 f.data) := hr12
    obtain ⟨pa, pn, pc, rfl⟩ : ∃ a n c, v12 = .slice a n c := by obtain ⟨a, c, h, _⟩ := hr12; exact ⟨_, _, _, h⟩
    clear hb12 hr12 X7 Y7 U11 T11 R11 d11 HDB HDR HBB BS5 BS6 BS7 BO8 BN9 BN10 BN11 BS11 BS12 B711 B712 Fxy Fe Fa Fn R4 R7 R8 C3 C4 I1 I2 I3 I4
    have Q12 : Hid (nmF n1 ≠ nmF n2 → Reads .u8 w12 (.slice ta tn tc) (readF fs3 (nmF n2)).1) := fun h9 => by rw [← Fne.out h9]; exact T12.out
    clear T12 Fne
    generalize readF fs3 (nmF n2) = qu at *
    generalize readF fs (nmF n2) = qx at *
    obtain ⟨x1, x2⟩ := qx
    obtain ⟨u1, u2⟩ := qu
    have ex : (x2 == x2) = true := by simp
    have eu : (u2 == u2) = true := by simp
    by_cases hab : nmF n1 = nmF n2
    · have eab := name_yes hab
      clear hab
      go_wp2_with fail
      refine (sameBytes_yes _ _ x1 _ X12.out Y12.out BYx.out).mono ?_
      rintro e w13 ⟨rfl, rfl⟩
      go_wp2_with fail
      refine (sameBytes_yes _ _ f.data _ W12.out R12.out BYf.out).mono ?_
      rintro e w13 ⟨rfl, rfl⟩
      go_wp2_with fail
      go_ret
      exact ⟨ret_bool (by simp), B12.out⟩
    · have eab := name_no hab
      have T12 : Hid (Reads .u8 w12 (.slice ta tn tc) u1) := Q12.out hab
      clear hab
      go_wp2_with fail
      refine (sameBytes_yes _ _ x1 _ X12.out Y12.out BYx.out).mono ?_
      rintro e w13 ⟨rfl, rfl⟩
      go_wp2_with fail
      refine (sameBytes_yes _ _ u1 _ U12.out T12.out BYu.out).mono ?_
      rintro e w13 ⟨rfl, rfl⟩
      go_wp2_with fail
      refine (sameBytes_yes _ _ f.data _ W12.out R12.out BYf.out).mono ?_
      rintro e w13 ⟨rfl, rfl⟩
      go_wp2_with fail
      go_ret
      exact ⟨ret_bool (by simp), B12.out⟩

set_option maxHeartbeats 400000 in
set_option maxRecDepth 100000 in
theorem lifted (os : Os) (started : os.Started) (H : Type) (enc : TypeId × Value → H) :
    ReturnsInHanded {} Try.checked os 5 .any (Rows.syncAloneSpec.pre6 enc Try.prog Try.f5 Rows.syncAloneRow.domain false) (Rows.syncAloneSpec.post enc Try.prog Try.f5 false true false false) := by
  refine returnsInHanded_of_change_sized (C := Try.checked) own started (by kernel_rfl) Try.func5
    (ChangeSpec.witness6 (enc := enc) (C := Try.checked) false ⟨#[], #[.slice none 0 0, .int .i64 0, .int .i64 0, .int .i64 0], []⟩ 8 (by kernel_rfl) (by kernel_rfl) (by kernel_rfl) (by kernel_rfl)) ?_
  intro W base args ds gs before hval0 hW _ hsz0 _
  have hval : ∀ (j : Nat) t v, Try.f5.params[j]? = some t → args[j]? = some v → Value.okWide Try.prog W .any base t v := hval0
  have hW' := hW
  obtain ⟨p, q, hA0, hV, rfl, hfz, hnd⟩ := hW
  have hA : DataW.TrodAll enc Try.prog W 0 (fun _ => true) true Try.f5.params.toList args.toList ds p := hA0
  have hsz : (DataW.weightsEach Try.prog (Try.f5.params.toList ++ Rows.syncAloneSpec.plain.varTypes Try.prog) (ds ++ gs)).all (fun x => decide (x ≤ reachBytes)) = true := hsz0
  rw [Try.params5] at hA hval hsz
  obtain ⟨v0, vs0, d0, ds0, p0, q0, hargs, rfl, rfl, h0, r0⟩ := trodAll_cons hA
  obtain ⟨v1, vs1, d1, ds1, p1, q1, rfl, rfl, rfl, h1, r1⟩ := trodAll_cons r0
  obtain ⟨v2, vs2, d2, ds2, p2, q2, rfl, rfl, rfl, h2, r2⟩ := trodAll_cons r1
  obtain ⟨v3, vs3, d3, ds3, p3, q3, rfl, rfl, rfl, h3, r3⟩ := trodAll_cons r2
  obtain ⟨rfl, rfl, rfl⟩ := trodAll_nil r3
  obtain rfl : args = #[v0, v1, v2, v3] := by cases args; simp_all
  obtain ⟨rfl, rfl⟩ := trodVars_none hV
  have k0 := h0
  have lt0 : ∀ x ∈ p0, x.block < W.heap.size := by obtain ⟨m, hm⟩ := k0; exact DataW.trod_lt m _ _ _ hm
  have k1 := h1
  have lt1 : ∀ x ∈ p1, x.block < W.heap.size := by obtain ⟨m, hm⟩ := k1; exact DataW.trod_lt m _ _ _ hm
  have k2 := h2
  have lt2 : ∀ x ∈ p2, x.block < W.heap.size := by obtain ⟨m, hm⟩ := k2; exact DataW.trod_lt m _ _ _ hm
  have k3 := h3
  have lt3 : ∀ x ∈ p3, x.block < W.heap.size := by obtain ⟨m, hm⟩ := k3; exact DataW.trod_lt m _ _ _ hm
  obtain ⟨ns0, hN0, hG0⟩ := open_notes (okWide_slice Try.underlying22 (hval 0 22 v0 rfl rfl)) h0
  obtain ⟨n1, rfl, _, _, wf1⟩ := open_int Try.underlying3 (hval 1 3 v1 rfl rfl) h1
  have hI1 := bounds_i64 wf1
  obtain ⟨n2, rfl, _, _, wf2⟩ := open_int Try.underlying3 (hval 2 3 v2 rfl rfl) h2
  have hI2 := bounds_i64 wf2
  obtain ⟨n3, rfl, _, _, wf3⟩ := open_int Try.underlying3 (hval 3 3 v3 rfl rfl) h3
  have hI3 := bounds_i64 wf3
  clear hA0 hval0
  refine (walk v0 ns0 n1 n2 n3 W hN0 hG0 hI1 hI2 hI3).mono fun e W' ⟨he, bel⟩ => ?_
  subst he
  exact ⟨_, rfl, _, _, _, [], _, [], hW', trodAll_mk1 (shut_bool Try.underlying4 _), (trodAll_cons_mk (Below.trod laidOut (by kernel_rfl) (of_decide_eq_true (by kernel_rfl)) k0 bel lt0) (trodAll_cons_mk (Below.trod laidOut (by kernel_rfl) (of_decide_eq_true (by kernel_rfl)) k1 bel lt1) (trodAll_cons_mk (Below.trod laidOut (by kernel_rfl) (of_decide_eq_true (by kernel_rfl)) k2 bel lt2) (trodAll_cons_mk (Below.trod laidOut (by kernel_rfl) (of_decide_eq_true (by kernel_rfl)) k3 bel lt3) trodAll_mk0)))), rfl, bel.frame _, fun h => by cases h⟩

theorem over : Rows.syncAloneRow.holds Try.pinned (OpenSpec.ofChange Rows.syncAloneSpec) :=
  OpenClaim.holds_of_wide 5 Try.f5 rfl rfl rfl rfl rfl rfl rfl ⟨rfl, rfl, rfl, rfl, rfl⟩ rfl rfl rfl rfl rfl (by kernel_rfl) Try.func5 (by kernel_rfl)
    (of_decide_eq_true (by kernel_rfl)) (by unfold Func.isWrapper; first | (rw [if_pos (by decide +kernel)]; kernel_rfl) | (rw [if_neg (by decide +kernel)]; exact ⟨rfl, rfl⟩))
    (fun os started H enc _ => lifted os started H enc)

/-- The statement. -/
theorem proved : Rows.SyncAloneSaid := over
#print axioms proved
end Go.Proofs.Ytdhaccljidhdcab.syncAlone
