/-
  For every graph and source paths.Dist answers what P12.1 says and leaves its arguments alone (the law PathsDists returns true, and its arguments read as before); no condition.
-/
import Derived.Test.YtankibadiomkkaaGraphOpen
import Derived.Test.YtankibadiomkkaaFaceDist
import Derived.Test.YtankibadiomkkaaRefDist
import Derived.Test.YtankibadiomkkaaSameGraph
import Derived.Test.YtankibadiomkkaaSameNums
import Derived.Test.YtankibadiomkkaaGraphCopy
import Derived.WalkKit
import Derived.ProofKit
import Derived.OpenShut
import Derived.ShutString
import Derived.SizedLaws
import Derived.ChangeOld
import Derived.Below
namespace Go.Proofs.Ytankibadiomkkaa.pathsDists
set_option maxRecDepth 100000
open Go.ChangeShapes Go.WideShapes Go.ChangeAt Go.RowKit

theorem own : ownKnob Try.prog.godebug = none := by kernel_rfl
theorem laidOut : laidOutB Try.prog = true := by kernel_rfl

set_option maxHeartbeats 1000000 in
set_option maxRecDepth 100000 in
theorem walk (v0 : Value) (n0 : Int) (es0 : List Ed) (n1 : Int) (w : World) (hN0 : i64B n0) (hR0 : EdR w v0 es0) (hB0 : ∀ x ∈ es0, edB x) (hL0 : es0.length * 24 ≤ 140737488351232) (hI1 : -9223372036854775808 ≤ n1 ∧ n1 ≤ 9223372036854775807) :
    Calls Try.prog 3 #[.agg #[.int .i64 n0, v0], .int .i64 n1] w fun e w' => e = .returned (.bool true) ∧ Below w.heap.size w w' := by
  have _u := hN0
  clear _u
  have _u := hR0
  clear _u
  have _u := hB0
  clear _u
  have _u := hL0
  clear _u
  have _u := hI1
  clear _u
  have HR : Hid (EdR w v0 es0) := hR0
  obtain ⟨a, cap, rfl⟩ := hR0.shape
  clear hR0 hB0
  go_enter Try.func3, Try.ntmps3
  go_wp2_with fail
  refine (graphs_any _ es0 n0 _ ?_ hL0).mono ?_
  · exact HR.out.below (below_alloc _ _) (Nat.le_refl _)
  rintro e w1 ⟨c, rfl, hc, hb1⟩
  have B1 : Hid (Below (w.heap.size + 1) (w.alloc (.cells #[.int .i64 n0, .slice a es0.length cap] 24)) w1) := by
    show Below _ _ _
    simpa using hb1
  have C1 : Hid (EdR w1 c es0) := hc
  obtain ⟨ca, cc, rfl⟩ := hc.shape
  have hs1 : w.heap.size + 1 ≤ w1.heap.size := by have := B1.out.size; simpa using this
  clear hb1 hc
  go_wp2_with fail
  refine (pDist_any _ es0 n0 n1 _ ?_).mono ?_
  · exact C1.out.below (below_alloc _ _) (Nat.le_refl _)
  rintro e w2 ⟨va, rfl, hown2, hb2⟩
  have B2 : Hid (Below (w1.heap.size + 1) (w1.alloc (.cells #[.int .i64 n0, .slice ca es0.length cc] 24)) w2) := by
    show Below _ _ _
    simpa using hb2
  have G2 : Hid (Below w.heap.size w w2) := (box_below B1.out).trans ((box_below B2.out).mono (by omega))
  have BB2 : Hid (Below (w.heap.size + 1) (w.alloc (.cells #[.int .i64 n0, .slice a es0.length cap] 24)) w2) := B1.out.trans ((box_below B2.out).mono hs1)
  have R2 : Hid (InR w2 va (okL (errV n0 es0 n1) (distF n0.toNat es0 n1))) := RowK.own encI_len hown2
  obtain ⟨vaa, vac, rfl⟩ := R2.out.shape
  have hs2 : w1.heap.size + 1 ≤ w2.heap.size := by have := B2.out.size; simpa using this
  obtain ⟨j0, j1⟩ := gbox_cells BB2.out
  clear hb2 hown2
  go_wp2_with fail
  refine (distOf_any _ es0 n0 n1 _ ?_).mono ?_
  · exact HR.out.below G2.out (Nat.le_refl _)
  rintro e w3 ⟨vb, rfl, hown3, hb3⟩
  have G3 : Hid (Below w2.heap.size w2 w3) := hb3
  have R3 : Hid (InR w3 vb (okL (errV n0 es0 n1) (distF n0.toNat es0 n1))) := RowK.own encI_len hown3
  obtain ⟨vba, vbc, rfl⟩ := R3.out.shape
  have hs3 := G3.out.size
  have QA : Hid (InR w3 (.slice vaa (okL (errV n0 es0 n1) (distF n0.toNat es0 n1)).length vac) (okL (errV n0 es0 n1) (distF n0.toNat es0 n1))) := R2.out.below G3.out (Nat.le_refl _)
  have QC : Hid (EdR w3 (.slice ca es0.length cc) es0) := (C1.out.below (box_below B2.out) (Nat.le_refl _)).below G3.out (Nat.le_refl _)
  have QG : Hid (EdR w3 (.slice a es0.length cap) es0) := (HR.out.below G2.out (Nat.le_refl _)).below G3.out (Nat.le_refl _)
  have F3 : Hid (Below w.heap.size w w3) := G2.out.trans (G3.out.mono (by omega))
  obtain ⟨k2', k3'⟩ := gbox_cells B2.out
  have KK : Hid (w3.cell? ⟨w1.heap.size, 0, none⟩ = some (.int .i64 n0) ∧ w3.cell? ⟨w1.heap.size, 1, none⟩ = some (.slice ca es0.length cc) ∧ w3.cell? ⟨w.heap.size, 0, none⟩ = some (.int .i64 n0) ∧ w3.cell? ⟨w.heap.size, 1, none⟩ = some (.slice a es0.length cap)) :=
    ⟨(G3.out.cell (p := ⟨w1.heap.size, 0, none⟩) (show w1.heap.size < w2.heap.size by omega)).trans k2', (G3.out.cell (p := ⟨w1.heap.size, 1, none⟩) (show w1.heap.size < w2.heap.size by omega)).trans k3', (G3.out.cell (p := ⟨w.heap.size, 0, none⟩) (show w.heap.size < w2.heap.size by omega)).trans j0, (G3.out.cell (p := ⟨w.heap.size, 1, none⟩) (show w.heap.size < w2.heap.size by omega)).trans j1⟩
  clear hb3 hown3 k2' k3' j0 j1 R2 C1 HR B1 B2 G2 BB2
  generalize okL (errV n0 es0 n1) (distF n0.toNat es0 n1) = L at *
  generalize errV n0 es0 n1 = q at *
  have hq : (q == q) = true := by simp
  go_wp2_with fail
  refine (sameInts_yes _ _ L _ QA.out R3.out).mono ?_
  rintro e w4 ⟨rfl, hb4⟩
  have l2 := (hb4.cell (p := ⟨w1.heap.size, 0, none⟩) (show w1.heap.size < w3.heap.size by omega)).trans KK.out.1
  have l3 := (hb4.cell (p := ⟨w1.heap.size, 1, none⟩) (show w1.heap.size < w3.heap.size by omega)).trans KK.out.2.1
  have l4 := (hb4.cell (p := ⟨w.heap.size, 0, none⟩) (show w.heap.size < w3.heap.size by omega)).trans KK.out.2.2.1
  have l5 := (hb4.cell (p := ⟨w.heap.size, 1, none⟩) (show w.heap.size < w3.heap.size by omega)).trans KK.out.2.2.2
  have H4 : Hid (Below w3.heap.size w3 w4) := hb4
  have PC : Hid (EdR w4 (.slice ca es0.length cc) es0) := QC.out.below H4.out (Nat.le_refl _)
  have PG : Hid (EdR w4 (.slice a es0.length cap) es0) := QG.out.below H4.out (Nat.le_refl _)
  clear hb4 KK
  go_wp2_with fail
  refine (sameGraph_yes _ _ es0 n0 _ PC.out PG.out).mono ?_
  rintro e w5 ⟨rfl, hb5⟩
  have B5 : Hid (Below w.heap.size w w5) := (F3.out.trans (H4.out.mono F3.out.size)).trans (hb5.mono (by have := F3.out.size; have := H4.out.size; omega))
  clear hb5 l2 l3 l4 l5
  go_wp2_with fail
  go_ret
  exact ⟨ret_bool (by simp), B5.out⟩

set_option maxHeartbeats 400000 in
set_option maxRecDepth 100000 in
theorem lifted (os : Os) (started : os.Started) (H : Type) (enc : TypeId × Value → H) :
    ReturnsInHanded {} Try.checked os 3 .any (Rows.pathsDistsSpec.pre6 enc Try.prog Try.f3 Rows.pathsDistsRow.domain false) (Rows.pathsDistsSpec.post enc Try.prog Try.f3 false true false false) := by
  refine returnsInHanded_of_change_sized (C := Try.checked) own started (by kernel_rfl) Try.func3
    (ChangeSpec.witness6 (enc := enc) (C := Try.checked) false ⟨#[], #[.agg #[.int .i64 0, .slice none 0 0], .int .i64 0], []⟩ 8 (by kernel_rfl) (by kernel_rfl) (by kernel_rfl) (by kernel_rfl)) ?_
  intro W base args ds gs before hval0 hW _ hsz0 _
  have hval : ∀ (j : Nat) t v, Try.f3.params[j]? = some t → args[j]? = some v → Value.okWide Try.prog W .any base t v := hval0
  have hW' := hW
  obtain ⟨p, q, hA0, hV, rfl, hfz, hnd⟩ := hW
  have hA : DataW.TrodAll enc Try.prog W 0 (fun _ => true) true Try.f3.params.toList args.toList ds p := hA0
  have hsz : (DataW.weightsEach Try.prog (Try.f3.params.toList ++ Rows.pathsDistsSpec.plain.varTypes Try.prog) (ds ++ gs)).all (fun x => decide (x ≤ reachBytes)) = true := hsz0
  rw [Try.params3] at hA hval hsz
  obtain ⟨v0, vs0, d0, ds0, p0, q0, hargs, rfl, rfl, h0, r0⟩ := trodAll_cons hA
  obtain ⟨v1, vs1, d1, ds1, p1, q1, rfl, rfl, rfl, h1, r1⟩ := trodAll_cons r0
  obtain ⟨rfl, rfl, rfl⟩ := trodAll_nil r1
  obtain rfl : args = #[v0, v1] := by cases args; simp_all
  obtain ⟨rfl, rfl⟩ := trodVars_none hV
  have k0 := h0
  have lt0 : ∀ x ∈ p0, x.block < W.heap.size := by obtain ⟨m, hm⟩ := k0; exact DataW.trod_lt m _ _ _ hm
  have hw0 : ∀ m ∈ d0.weights Try.prog 24, m ≤ reachBytes := fun m hm => by simpa using List.all_eq_true.1 hsz _ (DataW.weights_mem_each (j := 0) (t := 24) rfl rfl m hm)
  have k1 := h1
  have lt1 : ∀ x ∈ p1, x.block < W.heap.size := by obtain ⟨m, hm⟩ := k1; exact DataW.trod_lt m _ _ _ hm
  obtain ⟨n0, w0, es0, rfl, hN0, hR0, hB0, hL0⟩ := open_graph (okWide_struct Try.underlying24 (hval 0 24 v0 rfl rfl)) h0 hw0
  obtain ⟨n1, rfl, _, _, wf1⟩ := open_int Try.underlying3 (hval 1 3 v1 rfl rfl) h1
  have hI1 := bounds_i64 wf1
  clear hA0 hval0
  refine (walk w0 n0 es0 n1 W hN0 hR0 hB0 hL0 hI1).mono fun e W' ⟨he, bel⟩ => ?_
  subst he
  exact ⟨_, rfl, _, _, _, [], _, [], hW', trodAll_mk1 (shut_bool Try.underlying4 _), (trodAll_cons_mk (Below.trod laidOut (by kernel_rfl) (of_decide_eq_true (by kernel_rfl)) k0 bel lt0) (trodAll_cons_mk (Below.trod laidOut (by kernel_rfl) (of_decide_eq_true (by kernel_rfl)) k1 bel lt1) trodAll_mk0)), rfl, bel.frame _, fun h => by cases h⟩

theorem over : Rows.pathsDistsRow.holds Try.pinned (OpenSpec.ofChange Rows.pathsDistsSpec) :=
  OpenClaim.holds_of_wide 3 Try.f3 rfl rfl rfl rfl rfl rfl rfl ⟨rfl, rfl, rfl, rfl, rfl⟩ rfl rfl rfl rfl rfl (by kernel_rfl) Try.func3 (by kernel_rfl)
    (of_decide_eq_true (by kernel_rfl)) (by unfold Func.isWrapper; first | (rw [if_pos (by decide +kernel)]; kernel_rfl) | (rw [if_neg (by decide +kernel)]; exact ⟨rfl, rfl⟩))
    (fun os started H enc _ => lifted os started H enc)

/-- The statement. -/
theorem proved : Rows.PathsDistsSaid := over
#print axioms proved
end Go.Proofs.Ytankibadiomkkaa.pathsDists
