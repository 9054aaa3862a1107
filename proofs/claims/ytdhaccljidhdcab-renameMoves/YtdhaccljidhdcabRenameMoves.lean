/-
  A renamed file has what it had, under the other name alone, whatever the notes and the two names (the law RenameMoves returns true, and its arguments read as before); no condition.
-/
import Derived.Test.YtdhaccljidhdcabDoneWalk
import Derived.Test.YtdhaccljidhdcabLawSame
import Derived.Test.YtdhaccljidhdcabDiskOpen
import Derived.WalkKit
import Derived.ProofKit
import Derived.OpenShut
import Derived.ShutString
import Derived.SizedLaws
import Derived.ChangeOld
import Derived.Below
namespace Go.Proofs.Ytdhaccljidhdcab.renameMoves
open Go.ChangeShapes Go.WideShapes Go.ChangeAt Go.RowKit

theorem own : ownKnob Try.prog.godebug = none := by kernel_rfl
theorem laidOut : laidOutB Try.prog = true := by kernel_rfl

set_option maxHeartbeats 1000000 in
set_option maxRecDepth 100000 in
theorem walk (v0 : Value) (ns0 : List NoteL) (n1 : Int) (n2 : Int) (w : World) (hN0 : NotesR w v0 ns0) (hG0 : GoodN ns0) (hI1 : -9223372036854775808 ≤ n1 ∧ n1 ≤ 9223372036854775807) (hI2 : -9223372036854775808 ≤ n2 ∧ n2 ≤ 9223372036854775807) :
    Calls Try.prog 7 #[v0, .int .i64 n1, .int .i64 n2] w fun e w' => e = .returned (.bool true) ∧ Below w.heap.size w w' := by
  have _u := hN0
  clear _u
  have _u := hG0
  clear _u
  have _u := hI1
  clear _u
  have _u := hI2
  clear _u
  have HNN : Hid (NotesR w v0 ns0) := hN0
  have HGN : Hid (GoodN ns0) := hG0
  obtain ⟨la, lc, rfl, _, _, _⟩ := hN0
  clear hG0
  go_enter Try.func7, Try.ntmps7
  go_wp2_with fail
  refine (done_any _ ns0 _ HNN.out HGN.out).mono ?_
  rintro e w1 ⟨v1, fs, rfl, hd1, hi1, hb1⟩
  have D1 : Hid (DiskR w1 v1 fs) := hd1
  have I1 : Hid (Inv fs 20 600) := hi1
  have B1 : Hid (Below w.heap.size w w1) := hb1
  have hs1 := hb1.size
  obtain ⟨da, dc, rfl, _, _, _, _⟩ := hd1
  clear hb1 hi1
  go_wp2_with fail
  refine (name_any n1 _ hI1.1 hI1.2).mono ?_
  rintro e w2 ⟨rfl, hb2⟩
  have BX2 : Hid (Below (w1.heap.size + 1) (w1.alloc (.cells #[.slice da fs.length dc] 26)) w2) := by simpa [Hid] using hb2
  have hs2 : w1.heap.size + 1 ≤ w2.heap.size := by have := BX2.out.size; simpa using this
  clear hb2
  go_wp2_with fail
  refine (name_any n2 _ hI2.1 hI2.2).mono ?_
  rintro e w3 ⟨rfl, hb3⟩
  have BX3 : Hid (Below (w1.heap.size + 1) (w1.alloc (.cells #[.slice da fs.length dc] 26)) w3) := BX2.out.trans (hb3.mono hs2)
  have hs3 := hb3.size
  have d3 := box_cell BX3.out
  have D3 : Hid (DiskR w3 (.slice da fs.length dc) fs) := D1.out.below (box_below BX3.out) (Nat.le_refl _)
  clear hb3
  go_wp2_with fail
  refine (read_any _ fs (nmF n1) _ D3.out I1.out.good).mono ?_
  rintro e w4 ⟨v4, rfl, hr4, hb4⟩
  have BX4 : Hid (Below (w1.heap.size + 1) (w1.alloc (.cells #[.slice da fs.length dc] 26)) w4) := BX3.out.trans (hb4.mono (by omega))
  have hs4 := hb4.size
  have d4 := box_cell BX4.out
  have D4 : Hid (DiskR w4 (.slice da fs.length dc) fs) := D1.out.below (box_below BX4.out) (Nat.le_refl _)
  rw [readF_lk I1.out.may] at hr4 ⊢
  have R4 : Hid (Reads .u8 w4 v4 (rdF (lk fs (nmF n1))).1) := hr4
  obtain ⟨oa, oc, rfl, _, _, _, _⟩ := hr4
  clear hb4 d3
  have HCH : Hid (chF fs (renameF fs (nmF n1) (nmF n2)) = renameF fs (nmF n1) (nmF n2)) := by show _ = _; simp [chF, I1.out.may]
  have HBY : Hid (∀ x ∈ (rdF (lk fs (nmF n1))).1, 0 ≤ x ∧ x ≤ 255) := by show ∀ x ∈ _, _; rw [← readF_lk I1.out.may]; exact readF_bytes I1.out.good
  go_wp2_with fail
  refine (diskRename_any _ fs (nmF n1) (nmF n2) _ D4.out I1.out.good (nmF_max _) (nmF_max _)).mono ?_
  rintro e w5 ⟨v5, rfl, hr5, hb5⟩
  rw [HCH.out] at hr5 ⊢
  have B5 : Hid (Below w.heap.size w w5) := B1.out.trans (((box_below BX4.out).trans (hb5.mono (by omega))).mono hs1)
  have R45 : Hid (Reads .u8 w5 (.slice oa (rdF (lk fs (nmF n1))).1.length oc) (rdF (lk fs (nmF n1))).1) := R4.out.below hb5 (Nat.le_refl _)
  have hs5 := hb5.size
  clear hb5
  cases hlk : lk fs (nmF n1) with
  | none =>
    have e1 : renameF fs (nmF n1) (nmF n2) = ([], 7) := rename_no (nmF_ok _) hlk
    rw [e1] at hr5 ⊢
    obtain ⟨va, vc, hv5, _, _, _, _⟩ := hr5
    have hv6 : v5 = .slice va 0 vc := hv5
    subst hv6
    clear hv5 hlk R4 R45 HBY
    have e7 : ((7 : Int) != 7) = false := rfl
    have e70 : ((7 : Int) != 0) = true := rfl
    have e77 : ((7 : Int) == 7) = true := rfl
    show _
    simp only [rdF]
    go_wp2_with fail
    go_ret
    exact ⟨ret_bool (by simp), B5.out.alloc (by omega) _⟩
  | some f =>
    obtain ⟨fs2, e1, I2, hlk2⟩ := rename_does I1.out (nmF_ok n2) (nmF_max n2) hlk
    rw [e1] at hr5 ⊢
    rw [hlk] at R45 HBY
    have R5 : Hid (DiskR w5 v5 fs2) := hr5
    have I5 : Hid (Inv fs2 20 600) := I2
    have hb9 : lk fs2 (nmF n2) = some { f with name := nmF n2 } := by rw [hlk2, if_pos rfl]
    have ha9 : nmF n1 ≠ nmF n2 → lk fs2 (nmF n1) = none := fun hne => by rw [hlk2, if_neg (fun e => hne e.symm), if_pos rfl]
    have hpos : 0 < fs2.length := by
      cases fs2 with
      | nil => simp [lk] at hb9
      | cons x r => simp
    obtain ⟨va, vc, hv5, _, _, _, _⟩ := hr5
    have hv6 : v5 = .slice va fs2.length vc := hv5
    subst hv6
    clear hv5 hlk R4 hlk2 e1
    have RO : Hid (Reads .u8 w5 (.slice oa f.data.length oc) f.data) := R45.out
    have BY : Hid (∀ x ∈ f.data, 0 ≤ x ∧ x ≤ 255) := HBY.out
    clear R45 HBY
    have HA9 : Hid (nmF n1 ≠ nmF n2 → lk fs2 (nmF n1) = none) := ha9
    have HB9 : Hid (lk fs2 (nmF n2) = some { f with name := nmF n2 }) := hb9
    have hp0 : (0 : Int) < (fs2.length : Int) := by omega
    have e00 : ((0 : Int) != 0) = false := rfl
    have e000 : ((0 : Int) == 0) = true := rfl
    have e77 : ((7 : Int) == 7) = true := rfl
    clear ha9 hb9
    simp only [rdF]
    go_wp2_with fail
    refine (read_any _ fs2 (nmF n2) _ ?_ I5.out.good).mono ?_
    · exact R5.out.below (below_alloc _ _) (Nat.le_refl _)
    rintro e w6 ⟨v6, rfl, hr6, hb6⟩
    rw [readF_lk I5.out.may, HB9.out] at hr6 ⊢
    have BX6 : Hid (Below (w5.heap.size + 1) (w5.alloc (.cells #[.slice va fs2.length vc] 26)) w6) := by simpa [Hid] using hb6
    have s6 := box_cell BX6.out
    have hs6 : w5.heap.size + 1 ≤ w6.heap.size := by have := BX6.out.size; simpa using this
    have R6 : Hid (Reads .u8 w6 v6 f.data) := hr6
    obtain ⟨ua, uc, hu6, _, _, _, _⟩ := hr6
    have hu7 : v6 = .slice ua f.data.length uc := hu6
    subst hu7
    clear hb6 hu6
    simp only [rdF]
    go_wp2_with fail
    refine (read_any _ fs2 (nmF n1) _ ?_ I5.out.good).mono ?_
    · exact R5.out.below (box_below BX6.out) (Nat.le_refl _)
    rintro e w7 ⟨v7, rfl, hr7, hb7⟩
    rw [readF_lk I5.out.may] at hr7 ⊢
    have BX7 : Hid (Below (w5.heap.size + 1) (w5.alloc (.cells #[.slice va fs2.length vc] 26)) w7) := BX6.out.trans (hb7.mono hs6)
    have s7 := box_cell BX7.out
    have R67 : Hid (Reads .u8 w7 (.slice ua f.data.length uc) f.data) := R6.out.below hb7 (Nat.le_refl _)
    have RO7 : Hid (Reads .u8 w7 (.slice oa f.data.length oc) f.data) := RO.out.below (box_below BX7.out) (Nat.le_refl _)
    have B7 : Hid (Below w.heap.size w w7) := B5.out.trans ((box_below BX7.out).mono (by omega))
    obtain ⟨xa, xc, rfl, _, _, _, _⟩ := hr7
    clear hb7
    by_cases hab : nmF n1 = nmF n2
    · have eab := name_yes hab
      clear hab
      generalize rdF (lk fs2 (nmF n1)) = q at *
      go_wp2_with fail
      refine (sameBytes_yes _ _ f.data _ R67.out RO7.out BY.out).mono ?_
      rintro e w8 ⟨rfl, rfl⟩
      go_wp2_with fail
      go_ret
      exact ⟨ret_bool (by simp), B7.out⟩
    · have eab := name_no hab
      rw [HA9.out hab]
      simp only [rdF]
      clear hab
      go_wp2_with fail
      refine (sameBytes_yes _ _ f.data _ R67.out RO7.out BY.out).mono ?_
      rintro e w8 ⟨rfl, rfl⟩
      go_wp2_with fail
      go_ret
      exact ⟨ret_bool (by simp), B7.out⟩

set_option maxHeartbeats 400000 in
set_option maxRecDepth 100000 in
theorem lifted (os : Os) (started : os.Started) (H : Type) (enc : TypeId × Value → H) :
    ReturnsInHanded {} Try.checked os 7 .any (Rows.renameMovesSpec.pre6 enc Try.prog Try.f7 Rows.renameMovesRow.domain false) (Rows.renameMovesSpec.post enc Try.prog Try.f7 false true false false) := by
  refine returnsInHanded_of_change_sized (C := Try.checked) own started (by kernel_rfl) Try.func7
    (ChangeSpec.witness6 (enc := enc) (C := Try.checked) false ⟨#[], #[.slice none 0 0, .int .i64 0, .int .i64 0], []⟩ 8 (by kernel_rfl) (by kernel_rfl) (by kernel_rfl) (by kernel_rfl)) ?_
  intro W base args ds gs before hval0 hW _ hsz0 _
  have hval : ∀ (j : Nat) t v, Try.f7.params[j]? = some t → args[j]? = some v → Value.okWide Try.prog W .any base t v := hval0
  have hW' := hW
  obtain ⟨p, q, hA0, hV, rfl, hfz, hnd⟩ := hW
  have hA : DataW.TrodAll enc Try.prog W 0 (fun _ => true) true Try.f7.params.toList args.toList ds p := hA0
  have hsz : (DataW.weightsEach Try.prog (Try.f7.params.toList ++ Rows.renameMovesSpec.plain.varTypes Try.prog) (ds ++ gs)).all (fun x => decide (x ≤ reachBytes)) = true := hsz0
  rw [Try.params7] at hA hval hsz
  obtain ⟨v0, vs0, d0, ds0, p0, q0, hargs, rfl, rfl, h0, r0⟩ := trodAll_cons hA
  obtain ⟨v1, vs1, d1, ds1, p1, q1, rfl, rfl, rfl, h1, r1⟩ := trodAll_cons r0
  obtain ⟨v2, vs2, d2, ds2, p2, q2, rfl, rfl, rfl, h2, r2⟩ := trodAll_cons r1
  obtain ⟨rfl, rfl, rfl⟩ := trodAll_nil r2
  obtain rfl : args = #[v0, v1, v2] := by cases args; simp_all
  obtain ⟨rfl, rfl⟩ := trodVars_none hV
  have k0 := h0
  have lt0 : ∀ x ∈ p0, x.block < W.heap.size := by obtain ⟨m, hm⟩ := k0; exact DataW.trod_lt m _ _ _ hm
  have k1 := h1
  have lt1 : ∀ x ∈ p1, x.block < W.heap.size := by obtain ⟨m, hm⟩ := k1; exact DataW.trod_lt m _ _ _ hm
  have k2 := h2
  have lt2 : ∀ x ∈ p2, x.block < W.heap.size := by obtain ⟨m, hm⟩ := k2; exact DataW.trod_lt m _ _ _ hm
  obtain ⟨ns0, hN0, hG0⟩ := open_notes (okWide_slice Try.underlying22 (hval 0 22 v0 rfl rfl)) h0
  obtain ⟨n1, rfl, _, _, wf1⟩ := open_int Try.underlying3 (hval 1 3 v1 rfl rfl) h1
  have hI1 := bounds_i64 wf1
  obtain ⟨n2, rfl, _, _, wf2⟩ := open_int Try.underlying3 (hval 2 3 v2 rfl rfl) h2
  have hI2 := bounds_i64 wf2
  clear hA0 hval0
  refine (walk v0 ns0 n1 n2 W hN0 hG0 hI1 hI2).mono fun e W' ⟨he, bel⟩ => ?_
  subst he
  exact ⟨_, rfl, _, _, _, [], _, [], hW', trodAll_mk1 (shut_bool Try.underlying4 _), (trodAll_cons_mk (Below.trod laidOut (by kernel_rfl) (of_decide_eq_true (by kernel_rfl)) k0 bel lt0) (trodAll_cons_mk (Below.trod laidOut (by kernel_rfl) (of_decide_eq_true (by kernel_rfl)) k1 bel lt1) (trodAll_cons_mk (Below.trod laidOut (by kernel_rfl) (of_decide_eq_true (by kernel_rfl)) k2 bel lt2) trodAll_mk0))), rfl, bel.frame _, fun h => by cases h⟩

theorem over : Rows.renameMovesRow.holds Try.pinned (OpenSpec.ofChange Rows.renameMovesSpec) :=
  OpenClaim.holds_of_wide 7 Try.f7 rfl rfl rfl rfl rfl rfl rfl ⟨rfl, rfl, rfl, rfl, rfl⟩ rfl rfl rfl rfl rfl (by kernel_rfl) Try.func7 (by kernel_rfl)
    (of_decide_eq_true (by kernel_rfl)) (by unfold Func.isWrapper; first | (rw [if_pos (by decide +kernel)]; kernel_rfl) | (rw [if_neg (by decide +kernel)]; exact ⟨rfl, rfl⟩))
    (fun os started H enc _ => lifted os started H enc)

/-- The statement. -/
theorem proved : Rows.RenameMovesSaid := over
#print axioms proved
end Go.Proofs.Ytdhaccljidhdcab.renameMoves
