/-
  For every slice of bytes frame.Wrap answers what P2.2 says and leaves its argument alone (the law FrameWraps returns true, and its argument reads as before); no condition.
-/
import Derived.Test.YtjagefchoggbaaaWrappedWalk
import Derived.Test.YtjagefchoggbaaaOctets
import Derived.WalkKit
import Derived.ProofKit
import Derived.OpenShut
import Derived.ShutString
import Derived.SizedLaws
import Derived.ChangeOld
import Derived.Below
namespace Go.Proofs.Ytjagefchoggbaaa.frameWraps
open Go.ChangeShapes Go.WideShapes Go.ChangeAt Go.RowKit
open Go.ChangeMaps (open_string shut_string)
set_option linter.unusedVariables false

theorem own : ownKnob Try.prog.godebug = none := by kernel_rfl
theorem laidOut : laidOutB Try.prog = true := by kernel_rfl


set_option maxHeartbeats 1000000 in
set_option maxRecDepth 100000 in
theorem walk (a0 : Option Addr) (len0 cap0 : Nat) (z0 : List Int) (w : World) (s0 : cap0 * 1 ≤ 140737488351232) (w0 : IsRow .u8 w a0 len0 cap0 z0) :
    Calls Try.prog 4 #[.slice a0 len0 cap0] w fun e w' => e = .returned (.bool true) ∧ Below w.heap.size w w' := by
  obtain ⟨r0, e0, le0, wf0⟩ := w0.reads
  have hx := bytes_wf wf0
  have hl : (z0.take len0).length ≤ 140737488355328 := by omega
  have HR : Hid (Reads .u8 w (.slice a0 len0 cap0) (z0.take len0)) := r0
  have HX : Hid (∀ x ∈ z0.take len0, 0 ≤ x ∧ x ≤ 255) := hx
  clear w0 wf0 r0 hx s0
  generalize z0.take len0 = xs at *
  subst e0
  go_enter Try.func4, Try.ntmps4
  go_wp2_with fail
  refine (octets_any _ xs _ HR.out hl).mono ?_
  rintro e w1 ⟨v1, rfl, hown1, hbel1⟩
  have R1 : Hid (Reads .u8 w1 v1 xs) := reads_own hown1
  have B1 : Hid (Below w.heap.size w w1) := hbel1
  have hs1 := hbel1.size
  clear hown1 hbel1
  by_cases hbig : 20000 < xs.length
  · obtain ⟨a1, cap1, rfl, _, _, _, _⟩ := R1.out
    go_wp2_with fail
    refine (wrap_over a1 xs.length cap1 _ hbig).mono ?_
    rintro e w2 ⟨rfl, rfl⟩
    have R0 : Hid (Reads .u8 w2 (.slice a0 xs.length cap0) xs) := HR.out.below B1.out (Nat.le_refl _)
    go_wp2_with fail
    refine (wrapped_over a0 xs.length cap0 _ hbig).mono ?_
    rintro e w3 ⟨rfl, rfl⟩
    have RN : Hid (Reads .u8 w3 (.slice none 0 0) []) := ⟨none, 0, rfl, by simp, by simp [maxLen], fun _ => rfl, fun x hx => by cases hx⟩
    go_wp2_with fail
    refine (sameBytes_any _ _ [] [] _ RN.out RN.out (by simp) (by simp)).mono ?_
    rintro e w4 ⟨rfl, rfl⟩
    go_wp2_with fail
    refine (sameBytes_any _ _ xs xs _ R1.out R0.out HX.out HX.out).mono ?_
    rintro e w5 ⟨rfl, rfl⟩
    go_wp2
    go_ret
    exact ⟨ret_bool (by simp), B1.out⟩
  · have hsm : xs.length ≤ 20000 := by omega
    go_wp2_with fail
    refine (wrap_any _ xs _ R1.out HX.out hsm).mono ?_
    rintro e w2 ⟨v2, rfl, hown2, hbel2⟩
    have B2 : Hid (Below w.heap.size w w2) := B1.out.trans (hbel2.mono hs1)
    have R12 : Hid (Reads .u8 w2 v1 xs) := R1.out.below hbel2 (Nat.le_refl _)
    have R2 : Hid (Reads .u8 w2 v2 (wrap xs)) := reads_own hown2
    have R0 : Hid (Reads .u8 w2 (.slice a0 xs.length cap0) xs) := HR.out.below B2.out (Nat.le_refl _)
    have hs2 := B2.out.size
    clear hown2 hbel2
    go_wp2_with fail
    refine (wrapped_any _ xs _ R0.out HX.out hsm).mono ?_
    rintro e w3 ⟨v3, rfl, hown3, hbel3⟩
    have B3 : Hid (Below w.heap.size w w3) := B2.out.trans (hbel3.mono hs2)
    have R13 : Hid (Reads .u8 w3 v1 xs) := R12.out.below hbel3 (Nat.le_refl _)
    have R23 : Hid (Reads .u8 w3 v2 (wrap xs)) := R2.out.below hbel3 (Nat.le_refl _)
    have R3 : Hid (Reads .u8 w3 v3 (wrap xs)) := reads_own hown3
    have R03 : Hid (Reads .u8 w3 (.slice a0 xs.length cap0) xs) := HR.out.below B3.out (Nat.le_refl _)
    have HW : Hid (∀ x ∈ wrap xs, 0 ≤ x ∧ x ≤ 255) := wrap_bytes HX.out hsm
    clear hown3 hbel3
    go_wp2_with fail
    refine (sameBytes_any _ _ _ _ _ R23.out R3.out HW.out HW.out).mono ?_
    rintro e w4 ⟨rfl, rfl⟩
    go_wp2_with fail
    refine (sameBytes_any _ _ xs xs _ R13.out R03.out HX.out HX.out).mono ?_
    rintro e w5 ⟨rfl, rfl⟩
    go_wp2
    go_ret
    exact ⟨ret_bool (by simp), B3.out⟩


set_option maxRecDepth 100000 in
theorem lifted (os : Os) (started : os.Started) (H : Type) (enc : TypeId × Value → H) :
    ReturnsInHanded {} Try.checked os 4 .any (Rows.frameWrapsSpec.pre6 enc Try.prog Try.f4 Rows.frameWrapsRow.domain false) (Rows.frameWrapsSpec.post enc Try.prog Try.f4 false true false false) := by
  refine returnsInHanded_of_change_sized (C := Try.checked) own started (by kernel_rfl) Try.func4
    (ChangeSpec.witness6 (enc := enc) (C := Try.checked) false ⟨#[], #[.slice none 0 0], []⟩ 8 (by kernel_rfl) (by kernel_rfl) (by kernel_rfl) (by kernel_rfl)) ?_
  intro W base args ds gs before hval0 hW hcnd hsz0 _
  have hval : ∀ (j : Nat) t v, Try.f4.params[j]? = some t → args[j]? = some v → Value.okWide Try.prog W .any base t v := hval0
  have hW' := hW
  obtain ⟨p, q, hA0, hV, rfl, hfz, hnd⟩ := hW
  have hA : DataW.TrodAll enc Try.prog W 0 (fun _ => true) true Try.f4.params.toList args.toList ds p := hA0
  have hsz : (DataW.weightsEach Try.prog (Try.f4.params.toList ++ Rows.frameWrapsSpec.plain.varTypes Try.prog) (ds ++ gs)).all (fun x => decide (x ≤ reachBytes)) = true := hsz0
  rw [Try.params4] at hA hval hsz
  obtain ⟨v0, vs0, d0, ds0, p0, q0, hargs, rfl, rfl, h0, r0⟩ := trodAll_cons hA
  obtain ⟨rfl, rfl, rfl⟩ := trodAll_nil r0
  obtain rfl : args = #[v0] := by cases args; simp_all
  obtain ⟨rfl, rfl⟩ := trodVars_none hV
  obtain ⟨a0, len0, cap0, rfl⟩ := okWide_slice Try.underlying22 (hval 0 22 v0 rfl rfl)
  have k0 := h0
  have lt0 : ∀ x ∈ p0, x.block < W.heap.size := by obtain ⟨m, hm⟩ := k0; exact DataW.trod_lt m _ _ _ hm
  obtain ⟨z0, w0, s0⟩ : ∃ zs, IsRow .u8 W a0 len0 cap0 zs ∧ cap0 * 1 ≤ 140737488351232 := by
    obtain ⟨fuel, hf⟩ := h0
    rcases open_ints Try.underlying22 Try.underlying5 (by kernel_rfl) hf with ⟨hcs, _⟩ | ⟨x, l, c, zs, hcs, _, hl, hm, hz, hx, hcell, hwz⟩
    · simp [Value.cells] at hcs
      obtain ⟨rfl, rfl, rfl⟩ := hcs
      exact ⟨[], .inl ⟨rfl, rfl, rfl, rfl⟩, by simp⟩
    · simp [Value.cells] at hcs
      obtain ⟨rfl, rfl, rfl⟩ := hcs
      have hz2 : zs.length = cap0 := by simpa using hz
      simp only [Prod.mk.injEq] at hx
      have hd := hx.1
      have hr := sized_slice hsz (j := 0) (t := 22) (e := 5) rfl (by rw [hd]; rfl) Try.underlying22
      rw [show Try.prog.bytesOf 5 = 1 from by kernel_rfl] at hr
      simp only [lits, List.length_map, List.length_take, List.length_drop, reachBytes] at hr
      exact ⟨zs, .inr ⟨_, rfl, hl, hm, hz2, hcell, hwz⟩, by omega⟩
  clear hA0 hval0
  refine (walk a0 len0 cap0 z0 W s0 w0).mono fun e W' ⟨he, bel⟩ => ?_
  subst he
  exact ⟨_, rfl, _, _, _, [], _, [], hW', trodAll_mk1 (shut_bool Try.underlying4 _), (trodAll_cons_mk (Below.trod laidOut (by kernel_rfl) (of_decide_eq_true (by kernel_rfl)) k0 bel lt0) trodAll_mk0), rfl, bel.frame _, fun h => by cases h⟩

theorem over : Rows.frameWrapsRow.holds Try.pinned (OpenSpec.ofChange Rows.frameWrapsSpec) :=
  OpenClaim.holds_of_wide 4 Try.f4 rfl rfl rfl rfl rfl rfl rfl ⟨rfl, rfl, rfl, rfl, rfl⟩ rfl rfl rfl rfl rfl (by kernel_rfl) Try.func4 (by kernel_rfl)
    (of_decide_eq_true (by kernel_rfl)) (by unfold Func.isWrapper; first | (rw [if_pos (by decide +kernel)]; kernel_rfl) | (rw [if_neg (by decide +kernel)]; exact ⟨rfl, rfl⟩))
    (fun os started H enc _ => lifted os started H enc)

/-- ████ THE STATEMENT ████ -/
theorem proved : Rows.FrameWrapsSaid := over
#print axioms proved
end Go.Proofs.Ytjagefchoggbaaa.frameWraps

