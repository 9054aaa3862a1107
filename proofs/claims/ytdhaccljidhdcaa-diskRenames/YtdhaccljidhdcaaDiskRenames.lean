/-
  For every disk and two names disk.Rename answers what P3.5 says and leaves its arguments alone (the law DiskRenames returns true, and its arguments read as before); no condition.
-/
import Derived.Test.YtdhaccljidhdcaaRenamedWalk
import Derived.Test.YtdhaccljidhdcaaLawSame
import Derived.Test.YtdhaccljidhdcaaDiskOpen
import Derived.WalkKit
import Derived.ProofKit
import Derived.OpenShut
import Derived.ShutString
import Derived.SizedLaws
import Derived.ChangeOld
import Derived.Below
namespace Go.Proofs.Ytdhaccljidhdcaa.diskRenames
open Go.ChangeShapes Go.WideShapes Go.ChangeAt Go.RowKit

theorem own : ownKnob Try.prog.godebug = none := by kernel_rfl
theorem laidOut : laidOutB Try.prog = true := by kernel_rfl

set_option maxHeartbeats 1000000 in
set_option maxRecDepth 100000 in
theorem walk (v0 : Value) (fs0 : List FileL) (s1 : ByteArray) (s2 : ByteArray) (w : World) (hD0 : DiskR w v0 fs0) (hG0 : Good fs0) (hL0 : fs0.length * 48 ≤ 140737488351232) (hS1 : s1.size ≤ maxLen) (hS2 : s2.size ≤ maxLen) :
    Calls Try.prog 6 #[.agg #[v0], .string s1, .string s2] w fun e w' => e = .returned (.bool true) ∧ Below w.heap.size w w' := by
  have _u := hD0
  clear _u
  have _u := hG0
  clear _u
  have _u := hL0
  clear _u
  have _u := hS1
  clear _u
  have _u := hS2
  clear _u
  have HD : Hid (DiskR w v0 fs0) := hD0
  have HG : Hid (Good fs0) := hG0
  have HGR : Hid (Good (chF fs0 (renameF fs0 s1 s2)).1) := good_ch hG0 (good_rename hG0 hS2)
  obtain ⟨a, cap, rfl, _, _, _, _⟩ := hD0
  clear hG0
  go_enter Try.func6, Try.ntmps6
  go_wp2_with fail
  refine (disks_any _ fs0 _ ?_ HG.out hL0).mono ?_
  · exact HD.out.below (below_alloc _ _) (Nat.le_refl _)
  rintro e w1 ⟨c, rfl, hc, hb1⟩
  have hb1' : Below (w.heap.size + 1) (w.alloc (.cells #[.slice a fs0.length cap] 24)) w1 := by simpa using hb1
  have r1 := box_cell hb1'
  have C1 : Hid (DiskR w1 c fs0) := hc
  have B1 : Hid (Below w.heap.size w w1) := box_below hb1'
  have hs1 : w.heap.size + 1 ≤ w1.heap.size := by have := hb1'.size; simpa using this
  obtain ⟨ca, cc, rfl, _, _, _, _⟩ := hc
  clear hb1 hb1'
  go_wp2_with fail
  refine (diskRename_any _ fs0 s1 s2 _ ?_ HG.out hS1 hS2).mono ?_
  · exact C1.out.below (below_alloc _ _) (Nat.le_refl _)
  rintro e w2 ⟨v2, rfl, hr2, hb2⟩
  have hb2' : Below (w1.heap.size + 1) (w1.alloc (.cells #[.slice ca fs0.length cc] 24)) w2 := by simpa using hb2
  have B12 : Hid (Below w1.heap.size w1 w2) := box_below hb2'
  have r2 := box_cell hb2'
  have t2 : w2.cell? ⟨w.heap.size, 0, none⟩ = some (.slice a fs0.length cap) := (B12.out.cell (p := ⟨w.heap.size, 0, none⟩) (show w.heap.size < w1.heap.size by omega)).trans r1
  have R2 : Hid (DiskR w2 v2 (chF fs0 (renameF fs0 s1 s2)).1) := hr2
  have C2 : Hid (DiskR w2 (.slice ca fs0.length cc) fs0) := C1.out.below B12.out (Nat.le_refl _)
  have B2 : Hid (Below w.heap.size w w2) := B1.out.trans (B12.out.mono (by omega))
  have D2 : Hid (DiskR w2 (.slice a fs0.length cap) fs0) := HD.out.below B2.out (Nat.le_refl _)
  have hs2 : w1.heap.size + 1 ≤ w2.heap.size := by have := hb2'.size; simpa using this
  obtain ⟨va, vc, rfl, _, _, _, _⟩ := hr2
  clear hb2 hb2'
  have t2' : ∀ o, (w2.alloc o).cell? ⟨w.heap.size, 0, none⟩ = some (.slice a fs0.length cap) := fun o => ((below_alloc w2 o).cell (p := ⟨w.heap.size, 0, none⟩) (show w.heap.size < w2.heap.size by omega)).trans t2
  go_wp2_with fail
  refine (renamed_any _ fs0 s1 s2 _ ?_ HG.out hL0 hS2).mono ?_
  · exact D2.out.below (below_alloc _ _) (Nat.le_refl _)
  rintro e w3 ⟨v3, rfl, hr3, hb3⟩
  have hb3' : Below (w2.heap.size + 1) (w2.alloc (.cells #[.slice va (chF fs0 (renameF fs0 s1 s2)).1.length vc] 24)) w3 := by simpa using hb3
  have B23 : Hid (Below w2.heap.size w2 w3) := box_below hb3'
  have s3 := box_cell hb3'
  have t3 : w3.cell? ⟨w.heap.size, 0, none⟩ = some (.slice a fs0.length cap) := (B23.out.cell (p := ⟨w.heap.size, 0, none⟩) (show w.heap.size < w2.heap.size by omega)).trans t2
  have r3 : w3.cell? ⟨w1.heap.size, 0, none⟩ = some (.slice ca fs0.length cc) := (B23.out.cell (p := ⟨w1.heap.size, 0, none⟩) (show w1.heap.size < w2.heap.size by omega)).trans r2
  have hs3 : w2.heap.size + 1 ≤ w3.heap.size := by have := hb3'.size; simpa using this
  have R23 : Hid (DiskR w3 (.slice va (chF fs0 (renameF fs0 s1 s2)).1.length vc) (chF fs0 (renameF fs0 s1 s2)).1) := R2.out.below B23.out (Nat.le_refl _)
  have R3 : Hid (DiskR w3 v3 (chF fs0 (renameF fs0 s1 s2)).1) := hr3
  have C3 : Hid (DiskR w3 (.slice ca fs0.length cc) fs0) := C2.out.below B23.out (Nat.le_refl _)
  have D3 : Hid (DiskR w3 (.slice a fs0.length cap) fs0) := D2.out.below B23.out (Nat.le_refl _)
  have B3 : Hid (Below w.heap.size w w3) := B2.out.trans (B23.out.mono (by omega))
  obtain ⟨ua, uc, rfl, _, _, _, _⟩ := hr3
  clear hb3 hb3' R2 C1 C2 D2 B1 B2
  generalize chF fs0 (renameF fs0 s1 s2) = q at *
  obtain ⟨q1, q2⟩ := q
  have hq : (q2 == q2) = true := by simp
  have s3' : ∀ o, (w3.alloc o).cell? ⟨w2.heap.size, 0, none⟩ = some (.slice va q1.length vc) := fun o => ((below_alloc w3 o).cell (p := ⟨w2.heap.size, 0, none⟩) (show w2.heap.size < w3.heap.size by omega)).trans s3
  go_wp2_with fail
  refine (sameDisk_yes _ _ q1 _ ?_ ?_ HGR.out).mono ?_
  · exact R23.out.below (below_alloc _ _) (Nat.le_refl _)
  · exact R3.out.below (below_alloc _ _) (Nat.le_refl _)
  rintro e w4 ⟨rfl, hb4⟩
  have B34 : Hid (Below w3.heap.size w3 w4) := (below_alloc w3 _).trans (hb4.mono (by simp))
  have t4 : w4.cell? ⟨w.heap.size, 0, none⟩ = some (.slice a fs0.length cap) := (B34.out.cell (p := ⟨w.heap.size, 0, none⟩) (show w.heap.size < w3.heap.size by omega)).trans t3
  have r4 : w4.cell? ⟨w1.heap.size, 0, none⟩ = some (.slice ca fs0.length cc) := (B34.out.cell (p := ⟨w1.heap.size, 0, none⟩) (show w1.heap.size < w3.heap.size by omega)).trans r3
  have B4 : Hid (Below w.heap.size w w4) := B3.out.trans (B34.out.mono (by omega))
  have hs4 := B34.out.size
  clear hb4
  go_wp2_with fail
  refine (sameDisk_yes _ _ fs0 _ (C3.out.below B34.out (Nat.le_refl _)) (D3.out.below B34.out (Nat.le_refl _)) HG.out).mono ?_
  rintro e w5 ⟨rfl, hb5⟩
  have B5 : Hid (Below w.heap.size w w5) := B4.out.trans (hb5.mono (by omega))
  clear hb5
  go_wp2_with fail
  go_ret
  exact ⟨ret_bool (by simp), B5.out⟩

set_option maxHeartbeats 400000 in
set_option maxRecDepth 100000 in
theorem lifted (os : Os) (started : os.Started) (H : Type) (enc : TypeId × Value → H) :
    ReturnsInHanded {} Try.checked os 6 .any (Rows.diskRenamesSpec.pre6 enc Try.prog Try.f6 Rows.diskRenamesRow.domain false) (Rows.diskRenamesSpec.post enc Try.prog Try.f6 false true false false) := by
  refine returnsInHanded_of_change_sized (C := Try.checked) own started (by kernel_rfl) Try.func6
    (ChangeSpec.witness6 (enc := enc) (C := Try.checked) false ⟨#[], #[.agg #[.slice none 0 0], .string ByteArray.empty, .string ByteArray.empty], []⟩ 8 (by kernel_rfl) (by kernel_rfl) (by kernel_rfl) (by kernel_rfl)) ?_
  intro W base args ds gs before hval0 hW _ hsz0 _
  have hval : ∀ (j : Nat) t v, Try.f6.params[j]? = some t → args[j]? = some v → Value.okWide Try.prog W .any base t v := hval0
  have hW' := hW
  obtain ⟨p, q, hA0, hV, rfl, hfz, hnd⟩ := hW
  have hA : DataW.TrodAll enc Try.prog W 0 (fun _ => true) true Try.f6.params.toList args.toList ds p := hA0
  have hsz : (DataW.weightsEach Try.prog (Try.f6.params.toList ++ Rows.diskRenamesSpec.plain.varTypes Try.prog) (ds ++ gs)).all (fun x => decide (x ≤ reachBytes)) = true := hsz0
  rw [Try.params6] at hA hval hsz
  obtain ⟨v0, vs0, d0, ds0, p0, q0, hargs, rfl, rfl, h0, r0⟩ := trodAll_cons hA
  obtain ⟨v1, vs1, d1, ds1, p1, q1, rfl, rfl, rfl, h1, r1⟩ := trodAll_cons r0
  obtain ⟨v2, vs2, d2, ds2, p2, q2, rfl, rfl, rfl, h2, r2⟩ := trodAll_cons r1
  obtain ⟨rfl, rfl, rfl⟩ := trodAll_nil r2
  obtain rfl : args = #[v0, v1, v2] := by cases args; simp_all
  obtain ⟨rfl, rfl⟩ := trodVars_none hV
  have k0 := h0
  have lt0 : ∀ x ∈ p0, x.block < W.heap.size := by obtain ⟨m, hm⟩ := k0; exact DataW.trod_lt m _ _ _ hm
  have hw0 : ∀ m ∈ d0.weights Try.prog 24, m ≤ reachBytes := fun m hm => by simpa using List.all_eq_true.1 hsz _ (DataW.weights_mem_each (j := 0) (t := 24) rfl rfl m hm)
  have k1 := h1
  have lt1 : ∀ x ∈ p1, x.block < W.heap.size := by obtain ⟨m, hm⟩ := k1; exact DataW.trod_lt m _ _ _ hm
  have k2 := h2
  have lt2 : ∀ x ∈ p2, x.block < W.heap.size := by obtain ⟨m, hm⟩ := k2; exact DataW.trod_lt m _ _ _ hm
  obtain ⟨w0, fs0, rfl, hD0, hG0, hL0⟩ := open_disk (okWide_struct Try.underlying24 (hval 0 24 v0 rfl rfl)) h0 hw0
  obtain ⟨s1, rfl, _, _, hS1⟩ := Go.ChangeMaps.open_string Try.underlying9 (hval 1 9 v1 rfl rfl) h1
  obtain ⟨s2, rfl, _, _, hS2⟩ := Go.ChangeMaps.open_string Try.underlying9 (hval 2 9 v2 rfl rfl) h2
  clear hA0 hval0
  refine (walk w0 fs0 s1 s2 W hD0 hG0 hL0 hS1 hS2).mono fun e W' ⟨he, bel⟩ => ?_
  subst he
  exact ⟨_, rfl, _, _, _, [], _, [], hW', trodAll_mk1 (shut_bool Try.underlying4 _), (trodAll_cons_mk (Below.trod laidOut (by kernel_rfl) (of_decide_eq_true (by kernel_rfl)) k0 bel lt0) (trodAll_cons_mk (Below.trod laidOut (by kernel_rfl) (of_decide_eq_true (by kernel_rfl)) k1 bel lt1) (trodAll_cons_mk (Below.trod laidOut (by kernel_rfl) (of_decide_eq_true (by kernel_rfl)) k2 bel lt2) trodAll_mk0))), rfl, bel.frame _, fun h => by cases h⟩

theorem over : Rows.diskRenamesRow.holds Try.pinned (OpenSpec.ofChange Rows.diskRenamesSpec) :=
  OpenClaim.holds_of_wide 6 Try.f6 rfl rfl rfl rfl rfl rfl rfl ⟨rfl, rfl, rfl, rfl, rfl⟩ rfl rfl rfl rfl rfl (by kernel_rfl) Try.func6 (by kernel_rfl)
    (of_decide_eq_true (by kernel_rfl)) (by unfold Func.isWrapper; first | (rw [if_pos (by decide +kernel)]; kernel_rfl) | (rw [if_neg (by decide +kernel)]; exact ⟨rfl, rfl⟩))
    (fun os started H enc _ => lifted os started H enc)

/-- The statement. -/
theorem proved : Rows.DiskRenamesSaid := over
#print axioms proved
end Go.Proofs.Ytdhaccljidhdcaa.diskRenames
