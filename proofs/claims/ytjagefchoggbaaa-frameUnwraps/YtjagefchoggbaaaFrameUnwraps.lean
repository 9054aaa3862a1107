/-
  For every slice of bytes frame.Unwrap answers what P2.3 says and leaves its argument alone (the law FrameUnwraps returns true, and its argument reads as before); no condition.
-/
import Derived.Test.YtjagefchoggbaaaUnwrappedWalk
import Derived.Test.YtjagefchoggbaaaOctets
import Derived.Test.YtjagefchoggbaaaUnwrapFace
import Derived.WalkKit
import Derived.ProofKit
import Derived.OpenShut
import Derived.ShutString
import Derived.SizedLaws
import Derived.ChangeOld
import Derived.Below
namespace Go.Proofs.Ytjagefchoggbaaa.frameUnwraps
open Go.ChangeShapes Go.WideShapes Go.ChangeAt Go.RowKit
open Go.ChangeMaps (open_string shut_string)
set_option linter.unusedVariables false

theorem own : ownKnob Try.prog.godebug = none := by kernel_rfl
theorem laidOut : laidOutB Try.prog = true := by kernel_rfl


set_option maxHeartbeats 1000000 in
set_option maxRecDepth 100000 in
theorem walk (a0 : Option Addr) (len0 cap0 : Nat) (z0 : List Int) (w : World) (s0 : cap0 * 1 ≤ 140737488351232) (w0 : IsRow .u8 w a0 len0 cap0 z0) :
    Calls Try.prog 5 #[.slice a0 len0 cap0] w fun e w' => e = .returned (.bool true) ∧ Below w.heap.size w w' := by
  obtain ⟨r0, e0, le0, wf0⟩ := w0.reads
  have hx := bytes_wf wf0
  have hl : (z0.take len0).length ≤ 140737488355328 := by omega
  have HR : Hid (Reads .u8 w (.slice a0 len0 cap0) (z0.take len0)) := r0
  have HX : Hid (∀ x ∈ z0.take len0, 0 ≤ x ∧ x ≤ 255) := hx
  clear w0 wf0 r0 hx s0
  generalize z0.take len0 = xs at *
  go_enter Try.func5, Try.ntmps5
  go_wp2_with fail
  refine (octets_any _ xs _ HR.out hl).mono ?_
  rintro e w1 ⟨v1, rfl, hown1, hbel1⟩
  have R1 : Hid (Reads .u8 w1 v1 xs) := reads_own hown1
  have B1 : Hid (Below w.heap.size w w1) := hbel1
  have hs1 := hbel1.size
  clear hown1 hbel1
  have HQX : Hid (∀ x ∈ (unwrapF xs).1, 0 ≤ x ∧ x ≤ 255) := unwrapF_bytes HX.out
  obtain ⟨q, hq⟩ : ∃ q, unwrapF xs = q := ⟨_, rfl⟩
  have HQ : Hid (unwrapF xs = q) := hq
  rw [hq] at HQX
  clear hq
  obtain ⟨q1, q2, q3⟩ := q
  go_wp2_with fail
  refine (unwrap_any _ xs _ R1.out HX.out).mono ?_
  rintro e w2 ⟨v2, rfl, hown2, hbel2⟩
  rw [HQ.out] at hown2 ⊢
  have B2 : Hid (Below w.heap.size w w2) := B1.out.trans (hbel2.mono hs1)
  have R12 : Hid (Reads .u8 w2 v1 xs) := R1.out.below hbel2 (Nat.le_refl _)
  have R2 : Hid (Reads .u8 w2 v2 q1) := reads_own hown2
  have R0 : Hid (Reads .u8 w2 (.slice a0 len0 cap0) xs) := HR.out.below B2.out (Nat.le_refl _)
  have hs2 := B2.out.size
  clear hown2 hbel2
  go_wp2_with fail
  refine (unwrapped_any _ xs _ R0.out HX.out).mono ?_
  rintro e w3 ⟨v3, rfl, hown3, hbel3⟩
  rw [HQ.out] at hown3 ⊢
  have B3 : Hid (Below w.heap.size w w3) := B2.out.trans (hbel3.mono hs2)
  have R13 : Hid (Reads .u8 w3 v1 xs) := R12.out.below hbel3 (Nat.le_refl _)
  have R23 : Hid (Reads .u8 w3 v2 q1) := R2.out.below hbel3 (Nat.le_refl _)
  have R3 : Hid (Reads .u8 w3 v3 q1) := reads_own hown3
  have R03 : Hid (Reads .u8 w3 (.slice a0 len0 cap0) xs) := HR.out.below B3.out (Nat.le_refl _)
  clear hown3 hbel3
  have b2 : ((q2 : Int) == (q2 : Int)) = true := by simp
  have b3 : (q3 == q3) = true := by simp
  go_wp2_with fail
  refine (sameBytes_any _ _ _ _ _ R23.out R3.out HQX.out HQX.out).mono ?_
  rintro e w4 ⟨rfl, rfl⟩
  go_wp2_with fail
  refine (sameBytes_any _ _ xs xs _ R13.out R03.out HX.out HX.out).mono ?_
  rintro e w5 ⟨rfl, rfl⟩
  go_wp2
  go_ret
  exact ⟨ret_bool (by simp), B3.out⟩


set_option maxRecDepth 100000 in
theorem lifted (os : Os) (started : os.Started) (H : Type) (enc : TypeId × Value → H) :
    ReturnsInHanded {} Try.checked os 5 .any (Rows.frameUnwrapsSpec.pre6 enc Try.prog Try.f5 Rows.frameUnwrapsRow.domain false) (Rows.frameUnwrapsSpec.post enc Try.prog Try.f5 false true false false) := by
  refine returnsInHanded_of_change_sized (C := Try.checked) own started (by kernel_rfl) Try.func5
    (ChangeSpec.witness6 (enc := enc) (C := Try.checked) false ⟨#[], #[.slice none 0 0], []⟩ 8 (by kernel_rfl) (by kernel_rfl) (by kernel_rfl) (by kernel_rfl)) ?_
  intro W base args ds gs before hval0 hW hcnd hsz0 _
  have hval : ∀ (j : Nat) t v, Try.f5.params[j]? = some t → args[j]? = some v → Value.okWide Try.prog W .any base t v := hval0
  have hW' := hW
  obtain ⟨p, q, hA0, hV, rfl, hfz, hnd⟩ := hW
  have hA : DataW.TrodAll enc Try.prog W 0 (fun _ => true) true Try.f5.params.toList args.toList ds p := hA0
  have hsz : (DataW.weightsEach Try.prog (Try.f5.params.toList ++ Rows.frameUnwrapsSpec.plain.varTypes Try.prog) (ds ++ gs)).all (fun x => decide (x ≤ reachBytes)) = true := hsz0
  rw [Try.params5] at hA hval hsz
  obtain ⟨v0, vs0, d0, ds0, p0, q0, hargs, rfl, rfl, h0, r0⟩ := trodAll_cons hA
  obtain ⟨rfl, rfl, rfl⟩ := trodAll_nil r0
  obtain rfl : args = #[v0] := by cases args; simp_all
  obtain ⟨rfl, rfl⟩ := trodVars_none hV
  obtain ⟨a0, len0, cap0, rfl⟩ := okWide_slice Try.underlying22 (hval 0 22 v0 rfl rfl)
  have k0 := h0
  have lt0 : ∀ x ∈ p0, x.block < W.heap.size := by obtain ⟨m, hm⟩ := k0; exact DataW.trod_lt m _ _ _ hm
  obtain ⟨z0, w0, s0⟩ : ∃ zs, IsRow .u8 W a0 len0 cap0 zs ∧ cap0 * 1 ≤ 140737488351232 := by
    obtain ⟨fuel, hf⟩ := h0
    rcases open_ints Try.underlying22 Try.underlying5 (by kernel_rfl) hf with ⟨hcs, _⟩ | ⟨x, l, c, zs, hcs, _, hl, hm, hz, hx, hcell, hwz⟩
    · simp [Value.cells] at hcs
      obtain ⟨rfl, rfl, rfl⟩ := hcs
      exact ⟨[], .inl ⟨rfl, rfl, rfl, rfl⟩, by simp⟩
    · simp [Value.cells] at hcs
      obtain ⟨rfl, rfl, rfl⟩ := hcs
      have hz2 : zs.length = cap0 := by simpa using hz
      simp only [Prod.mk.injEq] at hx
      have hd := hx.1
      have hr := sized_slice hsz (j := 0) (t := 22) (e := 5) rfl (by rw [hd]; rfl) Try.underlying22
      rw [show Try.prog.bytesOf 5 = 1 from by kernel_rfl] at hr
      simp only [lits, List.length_map, List.length_take, List.length_drop, reachBytes] at hr
      exact ⟨zs, .inr ⟨_, rfl, hl, hm, hz2, hcell, hwz⟩, by omega⟩
  clear hA0 hval0
  refine (walk a0 len0 cap0 z0 W s0 w0).mono fun e W' ⟨he, bel⟩ => ?_
  subst he
  exact ⟨_, rfl, _, _, _, [], _, [], hW', trodAll_mk1 (shut_bool Try.underlying4 _), (trodAll_cons_mk (Below.trod laidOut (by kernel_rfl) (of_decide_eq_true (by kernel_rfl)) k0 bel lt0) trodAll_mk0), rfl, bel.frame _, fun h => by cases h⟩

theorem over : Rows.frameUnwrapsRow.holds Try.pinned (OpenSpec.ofChange Rows.frameUnwrapsSpec) :=
  OpenClaim.holds_of_wide 5 Try.f5 rfl rfl rfl rfl rfl rfl rfl ⟨rfl, rfl, rfl, rfl, rfl⟩ rfl rfl rfl rfl rfl (by kernel_rfl) Try.func5 (by kernel_rfl)
    (of_decide_eq_true (by kernel_rfl)) (by unfold Func.isWrapper; first | (rw [if_pos (by decide +kernel)]; kernel_rfl) | (rw [if_neg (by decide +kernel)]; exact ⟨rfl, rfl⟩))
    (fun os started H enc _ => lifted os started H enc)

/-- ████ THE STATEMENT ████ -/
theorem proved : Rows.FrameUnwrapsSaid := over
#print axioms proved
end Go.Proofs.Ytjagefchoggbaaa.frameUnwraps

