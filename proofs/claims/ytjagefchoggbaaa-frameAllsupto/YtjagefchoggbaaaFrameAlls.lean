/-
  For every slice of at most 1048575 places of bytes frame.All answers what P2.4 says and leaves its argument alone (the law FrameAlls returns true, and its argument reads as before); the condition is that of the second form: what is read is of bulk at most 1048576.
-/
import Derived.Test.YtjagefchoggbaaaAllOfWalk
import Derived.Test.YtjagefchoggbaaaOctets
import Derived.Test.YtjagefchoggbaaaBulk
import Derived.WalkKit
import Derived.ProofKit
import Derived.OpenShut
import Derived.ShutString
import Derived.JoinedCond
import Derived.SizedLaws
import Derived.ChangeOld
import Derived.Below
namespace Go.Proofs.Ytjagefchoggbaaa.frameAlls
open Go.ChangeShapes Go.WideShapes Go.ChangeAt Go.RowKit
open Go.ChangeMaps (open_string shut_string)
set_option linter.unusedVariables false

theorem own : ownKnob Try.prog.godebug = none := by kernel_rfl
theorem laidOut : laidOutB Try.prog = true := by kernel_rfl


set_option maxHeartbeats 1000000 in
set_option maxRecDepth 100000 in
theorem walk (a0 : Option Addr) (len0 cap0 : Nat) (z0 : List Int) (w : World) (s0 : cap0 ≤ 1048576) (w0 : IsRow .u8 w a0 len0 cap0 z0) :
    Calls Try.prog 6 #[.slice a0 len0 cap0] w fun e w' => e = .returned (.bool true) ∧ Below w.heap.size w w' := by
  obtain ⟨r0, e0, le0, wf0⟩ := w0.reads
  have hx := bytes_wf wf0
  have hl : (z0.take len0).length ≤ 1048576 := by omega
  have HR : Hid (Reads .u8 w (.slice a0 len0 cap0) (z0.take len0)) := r0
  have HX : Hid (∀ x ∈ z0.take len0, 0 ≤ x ∧ x ≤ 255) := hx
  clear w0 wf0 r0 hx s0
  generalize z0.take len0 = xs at *
  go_enter Try.func6, Try.ntmps6
  go_wp2_with fail
  refine (octets_any _ xs _ HR.out (by omega)).mono ?_
  rintro e w1 ⟨v1, rfl, hown1, hbel1⟩
  have R1 : Hid (Reads .u8 w1 v1 xs) := reads_own hown1
  have B1 : Hid (Below w.heap.size w w1) := hbel1
  have hs1 := hbel1.size
  clear hown1 hbel1
  have HQX : Hid (∀ p ∈ (allF xs).1, ∀ x ∈ p, 0 ≤ x ∧ x ≤ 255) := allF_bytes HX.out
  obtain ⟨q, hq⟩ : ∃ q, allF xs = q := ⟨_, rfl⟩
  have HQ : Hid (allF xs = q) := hq
  rw [hq] at HQX
  clear hq
  obtain ⟨q1, q2⟩ := q
  go_wp2_with fail
  refine (all_any _ xs _ R1.out HX.out (by omega)).mono ?_
  rintro e w2 ⟨v2, rfl, hown2, hbel2⟩
  rw [HQ.out] at hown2 ⊢
  have B2 : Hid (Below w.heap.size w w2) := B1.out.trans (hbel2.mono hs1)
  have R12 : Hid (Reads .u8 w2 v1 xs) := R1.out.below hbel2 (Nat.le_refl _)
  have L2 : Hid (Lists w2 w1.heap.size v2 q1) := hown2
  have R0 : Hid (Reads .u8 w2 (.slice a0 len0 cap0) xs) := HR.out.below B2.out (Nat.le_refl _)
  have hs2 := B2.out.size
  clear hown2 hbel2
  go_wp2_with fail
  refine (allOf_any _ xs _ R0.out HX.out (by omega)).mono ?_
  rintro e w3 ⟨v3, rfl, hown3, hbel3⟩
  rw [HQ.out] at hown3 ⊢
  have B3 : Hid (Below w.heap.size w w3) := B2.out.trans (hbel3.mono hs2)
  have R13 : Hid (Reads .u8 w3 v1 xs) := R12.out.below hbel3 (Nat.le_refl _)
  have L23 : Hid (Lists w3 w1.heap.size v2 q1) := L2.out.below hbel3 (Nat.le_refl _)
  have L3 : Hid (Lists w3 w2.heap.size v3 q1) := hown3
  have R03 : Hid (Reads .u8 w3 (.slice a0 len0 cap0) xs) := HR.out.below B3.out (Nat.le_refl _)
  have hs3 := B3.out.size
  clear hown3 hbel3
  have b2 : ((q2 : Int) == (q2 : Int)) = true := by simp
  go_wp2_with fail
  refine (sameList_any _ _ _ _ q1 _ L23.out L3.out HQX.out).mono ?_
  rintro e w4 ⟨rfl, hbel4⟩
  have B4 : Hid (Below w.heap.size w w4) := B3.out.trans (hbel4.mono hs3)
  have R14 : Hid (Reads .u8 w4 v1 xs) := R13.out.below hbel4 (Nat.le_refl _)
  have R04 : Hid (Reads .u8 w4 (.slice a0 len0 cap0) xs) := R03.out.below hbel4 (Nat.le_refl _)
  clear hbel4
  go_wp2_with fail
  refine (sameBytes_any _ _ xs xs _ R14.out R04.out HX.out HX.out).mono ?_
  rintro e w5 ⟨rfl, rfl⟩
  go_wp2
  go_ret
  exact ⟨ret_bool (by simp), B4.out⟩


set_option maxRecDepth 100000 in
theorem lifted (os : Os) (started : os.Started) (H : Type) (enc : TypeId × Value → H) (F : Stop.Interp) :
    ReturnsInHanded {} Try.checked os 6 .any ((Rows.OpenSpec.upto Rows.frameAllsSpec).pre6 enc Try.prog Try.f6 Rows.frameAllsUptoRow.domain false) (((Rows.OpenSpec.upto Rows.frameAllsSpec).at F).post enc Try.prog Try.f6 false true false false) := by
  refine returnsInHanded_of_cond (C := Try.checked) (s := Rows.OpenSpec.upto Rows.frameAllsSpec) (k := Rows.uptoSmall) rfl own started (by kernel_rfl) Try.func6
    (OpenSpec.witness (enc := enc) (C := Try.checked) (s := Rows.OpenSpec.upto Rows.frameAllsSpec) (k := Rows.uptoSmall) rfl false ⟨#[], #[.slice none 0 0], []⟩ 8 (by kernel_rfl) (by kernel_rfl) (by kernel_rfl) (x := ([.nil], [], [])) (by kernel_rfl) rfl (by kernel_rfl)) ?_
  intro W base args ds gs before hval0 hW _ hk _
  have hval : ∀ (j : Nat) t v, Try.f6.params[j]? = some t → args[j]? = some v → Value.okWide Try.prog W .any base t v := hval0
  have hW' := hW
  obtain ⟨p, q, hA0, hV, rfl, hfz, hnd⟩ := hW
  have hA : DataW.TrodAll enc Try.prog W 0 (fun _ => true) true Try.f6.params.toList args.toList ds p := hA0
  rw [Try.params6] at hA hval
  obtain ⟨v0, vs0, d0, ds0, p0, q0, hargs, rfl, rfl, h0, r0⟩ := trodAll_cons hA
  obtain ⟨rfl, rfl, rfl⟩ := trodAll_nil r0
  obtain rfl : args = #[v0] := by cases args; simp_all
  obtain ⟨rfl, rfl⟩ := trodVars_none hV
  obtain ⟨a0, len0, cap0, rfl⟩ := okWide_slice Try.underlying22 (hval 0 22 v0 rfl rfl)
  have k0 := h0
  have lt0 : ∀ x ∈ p0, x.block < W.heap.size := by obtain ⟨m, hm⟩ := k0; exact DataW.trod_lt m _ _ _ hm
  obtain ⟨z0, w0, s0⟩ : ∃ zs, IsRow .u8 W a0 len0 cap0 zs ∧ cap0 ≤ 1048576 := by
    obtain ⟨fuel, hf⟩ := h0
    simp only [List.append_nil] at hk
    rcases open_ints Try.underlying22 Try.underlying5 (by kernel_rfl) hf with ⟨hcs, _⟩ | ⟨x, l, c, zs, hcs, _, hl, hm, hz, hx, hcell, hwz⟩
    · simp [Value.cells] at hcs
      obtain ⟨rfl, rfl, rfl⟩ := hcs
      exact ⟨[], .inl ⟨rfl, rfl, rfl, rfl⟩, by simp⟩
    · simp [Value.cells] at hcs
      obtain ⟨rfl, rfl, rfl⟩ := hcs
      have hz2 : zs.length = cap0 := by simpa using hz
      simp only [Prod.mk.injEq] at hx
      have hd := hx.1
      have hr := bulk_slice hk hd
      simp only [lits, List.length_map, List.length_take, List.length_drop] at hr
      exact ⟨zs, .inr ⟨_, rfl, hl, hm, hz2, hcell, hwz⟩, by omega⟩
  clear hA0 hval0
  refine (walk a0 len0 cap0 z0 W s0 w0).mono fun e W' ⟨he, bel⟩ => ?_
  subst he
  exact ⟨_, rfl, _, _, _, [], _, [], hW', trodAll_mk1 (shut_bool Try.underlying4 _), (trodAll_cons_mk (Below.trod laidOut (by kernel_rfl) (of_decide_eq_true (by kernel_rfl)) k0 bel lt0) trodAll_mk0), rfl, bel.frame _, fun h => by cases h⟩

theorem over : Rows.frameAllsUptoRow.holds Try.pinned (Rows.OpenSpec.upto Rows.frameAllsSpec) :=
  OpenClaim.holds_of_cond 6 Try.f6 rfl rfl rfl rfl rfl rfl rfl ⟨rfl, rfl, rfl, rfl, rfl⟩ rfl rfl rfl rfl rfl (by kernel_rfl) Try.func6 (by kernel_rfl)
    (of_decide_eq_true (by kernel_rfl)) (by unfold Func.isWrapper; first | (rw [if_pos (by decide +kernel)]; kernel_rfl) | (rw [if_neg (by decide +kernel)]; exact ⟨rfl, rfl⟩))
    (fun os started H enc _ F => lifted os started H enc F)

/-- ████ THE STATEMENT ████ -/
theorem proved : Rows.FrameAllsUptoSaid := over
#print axioms proved
end Go.Proofs.Ytjagefchoggbaaa.frameAlls

