/-
  For every list of bytes ckpt.Decode answers what P14.3 says and leaves its argument alone (the law CkptDecodes returns true, and its argument reads as before); no condition.
-/
import Derived.Test.YthakibcfmbkpkaaCkptDecodesPartA
import Derived.Test.YthakibcfmbkpkaaCkptDecodesPartB
import Derived.Test.YthakibcfmbkpkaaSameBytes
import Derived.WalkKit
import Derived.ProofKit
import Derived.OpenShut
import Derived.ShutString
import Derived.SizedLaws
import Derived.ChangeOld
import Derived.Below
namespace Go.Proofs.Ythakibcfmbkpkaa.ckptDecodes
set_option maxRecDepth 100000
open Go.ChangeShapes Go.WideShapes Go.ChangeAt Go.RowKit

theorem own : ownKnob Try.prog.godebug = none := by kernel_rfl
theorem laidOut : laidOutB Try.prog = true := by kernel_rfl

set_option maxHeartbeats 2000000 in
set_option maxRecDepth 100000 in
theorem walk (v0 : Value) (xs0 : List Int) (w : World) (hR0 : Reads .u8 w v0 xs0) (hB0 : ∀ x ∈ xs0, 0 ≤ x ∧ x ≤ 255) (hN0 : xs0.length ≤ 140737488351232) :
    Calls Try.prog 3 #[v0] w fun e w' => e = .returned (.bool true) ∧ Below w.heap.size w w' := by
  have _u := hR0
  clear _u
  have _u := hB0
  clear _u
  have _u := hN0
  clear _u
  have HR : Hid (Reads .u8 w v0 xs0) := hR0
  have HX : Hid (∀ x ∈ xs0, 0 ≤ x ∧ x ≤ 255) := hB0
  obtain ⟨a, cap, rfl⟩ : ∃ a c, v0 = .slice a xs0.length c := by obtain ⟨a, c, e, _⟩ := hR0; exact ⟨a, c, e⟩
  have CD : Hid (∀ X v, Reads .u8 X v xs0 → Calls Try.prog 5 #[v] X (SvdP X (decS xs0))) := fun X v h => ckDecode_any v xs0 X h HX.out
  have CO : Hid (∀ X v, Reads .u8 X v xs0 → Calls Try.prog 6 #[v] X (SvdP X (decS xs0))) := fun X v h => savedOf_any v xs0 X h HX.out
  clear hR0 hB0
  generalize decS xs0 = D at *
  obtain ⟨s, f⟩ := D
  have te : (f == f) = true := by simp
  go_enter Try.func3, Try.ntmps3
  go_wp2_with fail
  refine (octets_any _ xs0 _ HR.out (by omega)).mono ?_
  rintro e w1 ⟨v1, rfl, hown1, hb1⟩
  have R1 : Hid (Reads .u8 w1 v1 xs0) := reads_own hown1
  have B1 : Hid (Below w.heap.size w w1) := hb1
  have hs1 := hb1.size
  obtain ⟨a1, c1, rfl⟩ : ∃ a c, v1 = .slice a xs0.length c := by obtain ⟨a, c, e, _⟩ := R1.out; exact ⟨a, c, e⟩
  clear hown1 hb1
  go_wp2_with fail
  refine (CD.out _ _ R1.out).mono ?_
  rintro e w2 ⟨u1, u2, rfl, hu1, hu2, hb2⟩
  have V2 : MlR w2 u1 s.vals := RowK.own encM_len hu1
  have M2 : MlR w2 u2 s.mail := RowK.own encM_len hu2
  have b2 : Below w.heap.size w w2 := B1.out.trans (hb2.mono hs1)
  have r2 : Reads .u8 w2 (.slice a1 xs0.length c1) xs0 := R1.out.below hb2 (Nat.le_refl _)
  obtain ⟨vb, vd, rfl⟩ := V2.shape
  obtain ⟨mb, md, rfl⟩ := M2.shape
  have N3 : Hid (Below w.heap.size w (w2.alloc (.cells #[.int .i64 s.step, .int .i64 s.phase, .bool s.fresh, .slice vb s.vals.length vd, .slice mb s.mail.length md] 27)) ∧ BX 27 (w2.alloc (.cells #[.int .i64 s.step, .int .i64 s.phase, .bool s.fresh, .slice vb s.vals.length vd, .slice mb s.mail.length md] 27)) w2.heap.size #[.int .i64 s.step, .int .i64 s.phase, .bool s.fresh, .slice vb s.vals.length vd, .slice mb s.mail.length md] ∧ MlR (w2.alloc (.cells #[.int .i64 s.step, .int .i64 s.phase, .bool s.fresh, .slice vb s.vals.length vd, .slice mb s.mail.length md] 27)) (.slice vb s.vals.length vd) s.vals ∧ MlR (w2.alloc (.cells #[.int .i64 s.step, .int .i64 s.phase, .bool s.fresh, .slice vb s.vals.length vd, .slice mb s.mail.length md] 27)) (.slice mb s.mail.length md) s.mail ∧ Reads .u8 (w2.alloc (.cells #[.int .i64 s.step, .int .i64 s.phase, .bool s.fresh, .slice vb s.vals.length vd, .slice mb s.mail.length md] 27)) (.slice a1 xs0.length c1) xs0) := ⟨b2.alloc b2.size _, BX.new _ _ _, V2.below (below_alloc _ _) (Nat.le_refl _), M2.below (below_alloc _ _) (Nat.le_refl _), r2.below (below_alloc _ _) (Nat.le_refl _)⟩
  clear hu1 hu2 hb2 V2 M2 b2 r2 CD R1
  go_upto_region 3 with fail
  generalize w2.alloc (.cells #[.int .i64 s.step, .int .i64 s.phase, .bool s.fresh, .slice vb s.vals.length vd, .slice mb s.mail.length md] 27) = w3 at *
  generalize w2.heap.size = b3 at *
  obtain ⟨B3', X3', V3', M3', R3'⟩ := N3.out
  have hs3 := B3'.size
  have hl3 := X3'.lt
  have K3 : Hid (∀ X, Below w3.heap.size w3 X → Below w.heap.size w X ∧ BX 27 X b3 #[.int .i64 s.step, .int .i64 s.phase, .bool s.fresh, .slice vb s.vals.length vd, .slice mb s.mail.length md] ∧ MlR X (.slice vb s.vals.length vd) s.vals ∧ MlR X (.slice mb s.mail.length md) s.mail ∧ Reads .u8 X (.slice a1 xs0.length c1) xs0) := fun X hX => ⟨B3'.trans (hX.mono hs3), X3'.below hX hl3, V3'.below hX (Nat.le_refl _), M3'.below hX (Nat.le_refl _), R3'.below hX (Nat.le_refl _)⟩
  have RA : Hid (Reads .u8 w3 (.slice a xs0.length cap) xs0) := HR.out.below B3' (Nat.le_refl _)
  clear B3' X3' V3' M3' R3' N3
  go_wp2_with fail
  refine (CO.out _ _ RA.out).mono ?_
  rintro e w4 ⟨p1, p2, rfl, hp1, hp2, hb4⟩
  have V4 : MlR w4 p1 s.vals := RowK.own encM_len hp1
  have M4 : MlR w4 p2 s.mail := RowK.own encM_len hp2
  obtain ⟨xb, xd, rfl⟩ := V4.shape
  obtain ⟨yb, yd, rfl⟩ := M4.shape
  have ba := hb4.alloc hb4.size (.cells #[.int .i64 s.step, .int .i64 s.phase, .bool s.fresh, .slice xb s.vals.length xd, .slice yb s.mail.length yd] 27)
  have N5 : Hid (Below w3.heap.size w3 (w4.alloc (.cells #[.int .i64 s.step, .int .i64 s.phase, .bool s.fresh, .slice xb s.vals.length xd, .slice yb s.mail.length yd] 27)) ∧ BX 27 (w4.alloc (.cells #[.int .i64 s.step, .int .i64 s.phase, .bool s.fresh, .slice xb s.vals.length xd, .slice yb s.mail.length yd] 27)) w4.heap.size #[.int .i64 s.step, .int .i64 s.phase, .bool s.fresh, .slice xb s.vals.length xd, .slice yb s.mail.length yd] ∧ MlR (w4.alloc (.cells #[.int .i64 s.step, .int .i64 s.phase, .bool s.fresh, .slice xb s.vals.length xd, .slice yb s.mail.length yd] 27)) (.slice xb s.vals.length xd) s.vals ∧ MlR (w4.alloc (.cells #[.int .i64 s.step, .int .i64 s.phase, .bool s.fresh, .slice xb s.vals.length xd, .slice yb s.mail.length yd] 27)) (.slice yb s.mail.length yd) s.mail) := ⟨ba, BX.new _ _ _, V4.below (below_alloc _ _) (Nat.le_refl _), M4.below (below_alloc _ _) (Nat.le_refl _)⟩
  clear hp1 hp2 hb4 V4 M4 ba CO
  go_upto_region 4 with fail
  generalize w4.alloc (.cells #[.int .i64 s.step, .int .i64 s.phase, .bool s.fresh, .slice xb s.vals.length xd, .slice yb s.mail.length yd] 27) = w5 at *
  generalize w4.heap.size = b5 at *
  obtain ⟨B5', X5', V5', M5'⟩ := N5.out
  obtain ⟨B5, Y5, V6, M6, R5⟩ := K3.out _ B5'
  have R6 : Hid (MlR w5 (.slice vb s.vals.length vd) s.vals ∧ MlR w5 (.slice mb s.mail.length md) s.mail ∧ MlR w5 (.slice xb s.vals.length xd) s.vals ∧ MlR w5 (.slice yb s.mail.length yd) s.mail ∧ Below w.heap.size w w5 ∧ Reads .u8 w5 (.slice a1 xs0.length c1) xs0 ∧ Reads .u8 w5 (.slice a xs0.length cap) xs0) := ⟨V6, M6, V5', M5', B5, R5, HR.out.below B5 (Nat.le_refl _)⟩
  obtain ⟨c0, c1', c2, c3, c4⟩ := Y5.all5
  obtain ⟨d0, d1, d2, d3, d4⟩ := X5'.all5
  have hw5 := B5.size
  clear B5' X5' V5' M5' B5 Y5 V6 M6 R5 N5 K3
  go_wp2_with fail
  refine (sameSaved_yes s _ _ _ _ _ R6.out.1 R6.out.2.2.1 R6.out.2.1 R6.out.2.2.2.1).mono ?_
  rintro e w7 ⟨rfl, hb7⟩
  have R7 : Hid (Reads .u8 w7 (.slice a1 xs0.length c1) xs0 ∧ Reads .u8 w7 (.slice a xs0.length cap) xs0) := ⟨R6.out.2.2.2.2.2.1.below hb7 (Nat.le_refl _), R6.out.2.2.2.2.2.2.below hb7 (Nat.le_refl _)⟩
  have B7 : Hid (Below w.heap.size w w7) := R6.out.2.2.2.2.1.trans (hb7.mono hw5)
  clear hb7 c0 c1' c2 c3 c4 d0 d1 d2 d3 d4
  go_wp2_with fail
  refine ((sameBytes_any _ _ xs0 xs0 _ R7.out.1 R7.out.2 HX.out HX.out).mono fun e w' h => (⟨by rw [h.1]; simp, h.2⟩ : e = .returned (.bool true) ∧ w' = w7)).mono ?_
  rintro e w8 ⟨rfl, e8⟩
  have e8' : w7 = w8 := e8.symm
  subst e8'
  clear e8
  go_wp2_with fail
  go_ret
  exact ⟨rfl, B7.out⟩

set_option maxHeartbeats 400000 in
set_option maxRecDepth 100000 in
theorem lifted (os : Os) (started : os.Started) (H : Type) (enc : TypeId × Value → H) :
    ReturnsInHanded {} Try.checked os 3 .any (Rows.ckptDecodesSpec.pre6 enc Try.prog Try.f3 Rows.ckptDecodesRow.domain false) (Rows.ckptDecodesSpec.post enc Try.prog Try.f3 false true false false) := by
  refine returnsInHanded_of_change_sized (C := Try.checked) own started (by kernel_rfl) Try.func3
    (ChangeSpec.witness6 (enc := enc) (C := Try.checked) false ⟨#[], #[.slice none 0 0], []⟩ 8 (by kernel_rfl) (by kernel_rfl) (by kernel_rfl) (by kernel_rfl)) ?_
  intro W base args ds gs before hval0 hW _ hsz0 _
  have hval : ∀ (j : Nat) t v, Try.f3.params[j]? = some t → args[j]? = some v → Value.okWide Try.prog W .any base t v := hval0
  have hW' := hW
  obtain ⟨p, q, hA0, hV, rfl, hfz, hnd⟩ := hW
  have hA : DataW.TrodAll enc Try.prog W 0 (fun _ => true) true Try.f3.params.toList args.toList ds p := hA0
  have hsz : (DataW.weightsEach Try.prog (Try.f3.params.toList ++ Rows.ckptDecodesSpec.plain.varTypes Try.prog) (ds ++ gs)).all (fun x => decide (x ≤ reachBytes)) = true := hsz0
  rw [Try.params3] at hA hval hsz
  obtain ⟨v0, vs0, d0, ds0, p0, q0, hargs, rfl, rfl, h0, r0⟩ := trodAll_cons hA
  obtain ⟨rfl, rfl, rfl⟩ := trodAll_nil r0
  obtain rfl : args = #[v0] := by cases args; simp_all
  obtain ⟨rfl, rfl⟩ := trodVars_none hV
  have k0 := h0
  have lt0 : ∀ x ∈ p0, x.block < W.heap.size := by obtain ⟨m, hm⟩ := k0; exact DataW.trod_lt m _ _ _ hm
  have hw0 : ∀ m ∈ d0.weights Try.prog 22, m ≤ reachBytes := fun m hm => by simpa using List.all_eq_true.1 hsz _ (DataW.weights_mem_each (j := 0) (t := 22) rfl rfl m hm)
  obtain ⟨xs0, hR0, hB0, hN0⟩ := open_bytes (okWide_slice Try.underlying22 (hval 0 22 v0 rfl rfl)) h0 hw0
  clear hA0 hval0
  refine (walk v0 xs0 W hR0 hB0 hN0).mono fun e W' ⟨he, bel⟩ => ?_
  subst he
  exact ⟨_, rfl, _, _, _, [], _, [], hW', trodAll_mk1 (shut_bool Try.underlying4 _), (trodAll_cons_mk (Below.trod laidOut (by kernel_rfl) (of_decide_eq_true (by kernel_rfl)) k0 bel lt0) trodAll_mk0), rfl, bel.frame _, fun h => by cases h⟩

theorem over : Rows.ckptDecodesRow.holds Try.pinned (OpenSpec.ofChange Rows.ckptDecodesSpec) :=
  OpenClaim.holds_of_wide 3 Try.f3 rfl rfl rfl rfl rfl rfl rfl ⟨rfl, rfl, rfl, rfl, rfl⟩ rfl rfl rfl rfl rfl (by kernel_rfl) Try.func3 (by kernel_rfl)
    (of_decide_eq_true (by kernel_rfl)) (by unfold Func.isWrapper; first | (rw [if_pos (by decide +kernel)]; kernel_rfl) | (rw [if_neg (by decide +kernel)]; exact ⟨rfl, rfl⟩))
    (fun os started H enc _ => lifted os started H enc)

/-- The statement. -/
theorem proved : Rows.CkptDecodesSaid := over
#print axioms proved
end Go.Proofs.Ythakibcfmbkpkaa.ckptDecodes
