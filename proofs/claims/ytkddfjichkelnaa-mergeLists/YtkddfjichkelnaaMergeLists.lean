/-
  For every list of lists of mail merge.Lists answers what P8.3 says and leaves its argument alone (the law MergeLists returns true, and its arguments read as before); no condition.
-/
import Derived.Test.YtkddfjichkelnaaMailOpen
import Derived.Test.YtkddfjichkelnaaMergeFace
import Derived.Test.YtkddfjichkelnaaRefLists
import Derived.Test.YtkddfjichkelnaaMailSame
import Derived.WalkKit
import Derived.ProofKit
import Derived.OpenShut
import Derived.ShutString
import Derived.SizedLaws
import Derived.ChangeOld
import Derived.Below
namespace Go.Proofs.Ytkddfjichkelnaa.mergeLists
set_option maxRecDepth 100000
open Go.ChangeShapes Go.WideShapes Go.ChangeAt Go.RowKit

theorem own : ownKnob Try.prog.godebug = none := by kernel_rfl
theorem laidOut : laidOutB Try.prog = true := by kernel_rfl

set_option maxHeartbeats 1000000 in
set_option maxRecDepth 100000 in
theorem walk (v0 : Value) (f0 : List (List Ml)) (w : World) (hR0 : LmR w v0 f0) (hB0 : ∀ l ∈ f0, (∀ x ∈ l, mlB x) ∧ l.length * 16 ≤ 140737488351232) (hL0 : f0.length * 24 ≤ 140737488351232) :
    Calls Try.prog 4 #[v0] w fun e w' => e = .returned (.bool true) ∧ Below w.heap.size w w' := by
  have _u := hR0
  clear _u
  have _u := hB0
  clear _u
  have _u := hL0
  clear _u
  have HR : Hid (LmR w v0 f0) := hR0
  have HLB : Hid (∀ l ∈ f0, l.length ≤ 8796093022208) := fun l hl => by have := (hB0 l hl).2; omega
  have HLC : Hid (∀ l ∈ f0, l.length * 16 ≤ 140737488351232) := fun l hl => (hB0 l hl).2
  obtain ⟨a, cap, rfl⟩ : ∃ a c, v0 = .slice a f0.length c := by obtain ⟨a, c, e, _⟩ := hR0; exact ⟨a, c, e⟩
  clear hR0 hB0
  go_enter Try.func4, Try.ntmps4
  go_wp2_with fail
  refine (lists_any _ f0 _ HR.out HLC.out hL0).mono ?_
  rintro e w1 ⟨c, rfl, ho1, hb1⟩
  have C1 : Hid (LmR w1 c f0) := ho1
  have B1 : Hid (Below w.heap.size w w1) := hb1
  obtain ⟨ca, cc, rfl⟩ : ∃ a cc, c = .slice a f0.length cc := by obtain ⟨a, c, e, _⟩ := C1.out; exact ⟨a, c, e⟩
  have hs1 := hb1.size
  clear ho1 hb1
  go_wp2_with fail
  refine (lists_merge _ f0 _ C1.out HLB.out).mono ?_
  rintro e w2 h2
  obtain ⟨va, vn, vc, rfl, hr2, _, hb2⟩ := h2.reads
  have R2 : Hid (MlR w2 (.slice va vn vc) (okL (errM f0) (sortM f0.flatten))) := hr2
  have B2 : Hid (Below w.heap.size w w2) := B1.out.trans (hb2.mono hs1)
  have C2 : Hid (LmR w2 (.slice ca f0.length cc) f0) := C1.out.below hb2 (Nat.le_refl _)
  have hs2 := B2.out.size
  clear h2 hr2 hb2
  go_wp2_with fail
  refine (refLists_any _ f0 _ (HR.out.below B2.out (Nat.le_refl _)) HLB.out).mono ?_
  rintro e w3 h3
  obtain ⟨wa, wn, wc, rfl, hr3, _, hb3⟩ := h3.reads
  have R3 : Hid (MlR w3 (.slice wa wn wc) (okL (errM f0) (sortM f0.flatten))) := hr3
  have A3 : Hid (MlR w3 (.slice va vn vc) (okL (errM f0) (sortM f0.flatten))) := R2.out.below hb3 (Nat.le_refl _)
  have C3 : Hid (LmR w3 (.slice ca f0.length cc) f0) := C2.out.below hb3 (Nat.le_refl _)
  have B3 : Hid (Below w.heap.size w w3) := B2.out.trans (hb3.mono hs2)
  have hs3 := B3.out.size
  clear h3 hr3 hb3 R2 C2 B2 C1 B1
  generalize okL (errM f0) (sortM f0.flatten) = L at *
  generalize errM f0 = q at *
  have hq : (q == q) = true := by simp
  go_wp2_with fail
  refine (sameMails_yes _ _ L _ A3.out R3.out).mono ?_
  rintro e w4 ⟨rfl, hb4⟩
  have C4 : Hid (LmR w4 (.slice ca f0.length cc) f0) := C3.out.below hb4 (Nat.le_refl _)
  have B4 : Hid (Below w.heap.size w w4) := B3.out.trans (hb4.mono hs3)
  have hs4 := B4.out.size
  clear hb4
  go_wp2_with fail
  refine (sameLists_yes _ _ f0 _ C4.out (HR.out.below B4.out (Nat.le_refl _))).mono ?_
  rintro e w5 ⟨rfl, hb5⟩
  have B5 : Hid (Below w.heap.size w w5) := B4.out.trans (hb5.mono hs4)
  clear hb5
  go_wp2_with fail
  go_ret
  exact ⟨ret_bool (by simp), B5.out⟩

set_option maxHeartbeats 400000 in
set_option maxRecDepth 100000 in
theorem lifted (os : Os) (started : os.Started) (H : Type) (enc : TypeId × Value → H) :
    ReturnsInHanded {} Try.checked os 4 .any (Rows.mergeListsSpec.pre6 enc Try.prog Try.f4 Rows.mergeListsRow.domain false) (Rows.mergeListsSpec.post enc Try.prog Try.f4 false true false false) := by
  refine returnsInHanded_of_change_sized (C := Try.checked) own started (by kernel_rfl) Try.func4
    (ChangeSpec.witness6 (enc := enc) (C := Try.checked) false ⟨#[], #[.slice none 0 0], []⟩ 8 (by kernel_rfl) (by kernel_rfl) (by kernel_rfl) (by kernel_rfl)) ?_
  intro W base args ds gs before hval0 hW _ hsz0 _
  have hval : ∀ (j : Nat) t v, Try.f4.params[j]? = some t → args[j]? = some v → Value.okWide Try.prog W .any base t v := hval0
  have hW' := hW
  obtain ⟨p, q, hA0, hV, rfl, hfz, hnd⟩ := hW
  have hA : DataW.TrodAll enc Try.prog W 0 (fun _ => true) true Try.f4.params.toList args.toList ds p := hA0
  have hsz : (DataW.weightsEach Try.prog (Try.f4.params.toList ++ Rows.mergeListsSpec.plain.varTypes Try.prog) (ds ++ gs)).all (fun x => decide (x ≤ reachBytes)) = true := hsz0
  rw [Try.params4] at hA hval hsz
  obtain ⟨v0, vs0, d0, ds0, p0, q0, hargs, rfl, rfl, h0, r0⟩ := trodAll_cons hA
  obtain ⟨rfl, rfl, rfl⟩ := trodAll_nil r0
  obtain rfl : args = #[v0] := by cases args; simp_all
  obtain ⟨rfl, rfl⟩ := trodVars_none hV
  have k0 := h0
  have lt0 : ∀ x ∈ p0, x.block < W.heap.size := by obtain ⟨m, hm⟩ := k0; exact DataW.trod_lt m _ _ _ hm
  have hw0 : ∀ m ∈ d0.weights Try.prog 29, m ≤ reachBytes := fun m hm => by simpa using List.all_eq_true.1 hsz _ (DataW.weights_mem_each (j := 0) (t := 29) rfl rfl m hm)
  obtain ⟨f0, hR0, hB0, hL0⟩ := open_lists (okWide_slice Try.underlying29 (hval 0 29 v0 rfl rfl)) h0 hw0
  clear hA0 hval0
  refine (walk v0 f0 W hR0 hB0 hL0).mono fun e W' ⟨he, bel⟩ => ?_
  subst he
  exact ⟨_, rfl, _, _, _, [], _, [], hW', trodAll_mk1 (shut_bool Try.underlying4 _), (trodAll_cons_mk (Below.trod laidOut (by kernel_rfl) (of_decide_eq_true (by kernel_rfl)) k0 bel lt0) trodAll_mk0), rfl, bel.frame _, fun h => by cases h⟩

theorem over : Rows.mergeListsRow.holds Try.pinned (OpenSpec.ofChange Rows.mergeListsSpec) :=
  OpenClaim.holds_of_wide 4 Try.f4 rfl rfl rfl rfl rfl rfl rfl ⟨rfl, rfl, rfl, rfl, rfl⟩ rfl rfl rfl rfl rfl (by kernel_rfl) Try.func4 (by kernel_rfl)
    (of_decide_eq_true (by kernel_rfl)) (by unfold Func.isWrapper; first | (rw [if_pos (by decide +kernel)]; kernel_rfl) | (rw [if_neg (by decide +kernel)]; exact ⟨rfl, rfl⟩))
    (fun os started H enc _ => lifted os started H enc)

/-- The statement. -/
theorem proved : Rows.MergeListsSaid := over
#print axioms proved
end Go.Proofs.Ytkddfjichkelnaa.mergeLists
