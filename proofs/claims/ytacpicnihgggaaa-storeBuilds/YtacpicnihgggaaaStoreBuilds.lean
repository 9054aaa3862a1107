/-
  For every graph, worker and number of workers store.Build answers what P7.1 says and leaves its arguments alone (the law StoreBuilds returns true, and its arguments read as before); no condition.
-/
import Derived.Test.YtacpicnihgggaaaGraphOpen
import Derived.Test.YtacpicnihgggaaaStoreBuildsPartC
import Derived.Test.YtacpicnihgggaaaSame
import Derived.WalkKit
import Derived.ProofKit
import Derived.OpenShut
import Derived.ShutString
import Derived.SizedLaws
import Derived.ChangeOld
import Derived.Below
namespace Go.Proofs.Ytacpicnihgggaaa.storeBuilds
set_option maxRecDepth 100000
open Go.ChangeShapes Go.WideShapes Go.ChangeAt Go.RowKit

theorem own : ownKnob Try.prog.godebug = none := by kernel_rfl
theorem laidOut : laidOutB Try.prog = true := by kernel_rfl

set_option maxHeartbeats 1000000 in
set_option maxRecDepth 100000 in
theorem walk (v0 : Value) (n0 : Int) (es0 : List Ed) (n1 : Int) (n2 : Int) (w : World) (hN0 : i64B n0) (hR0 : EdR w v0 es0) (hB0 : ∀ x ∈ es0, edB x) (hL0 : es0.length * 24 ≤ 140737488351232) (hI1 : -9223372036854775808 ≤ n1 ∧ n1 ≤ 9223372036854775807) (hI2 : -9223372036854775808 ≤ n2 ∧ n2 ≤ 9223372036854775807) :
    Calls Try.prog 3 #[.agg #[.int .i64 n0, v0], .int .i64 n1, .int .i64 n2] w fun e w' => e = .returned (.bool true) ∧ Below w.heap.size w w' := by
  have _u := hN0
  clear _u
  have _u := hR0
  clear _u
  have _u := hB0
  clear _u
  have _u := hL0
  clear _u
  have _u := hI1
  clear _u
  have _u := hI2
  clear _u
  have HR : Hid (EdR w v0 es0) := hR0
  obtain ⟨a, cap, rfl⟩ := hR0.shape
  clear hR0 hB0
  have HBY : Hid (∀ x ∈ (buildF n1 n2 n0 es0).1, 0 ≤ x ∧ x ≤ 255) := build_bytes
  have G0 : Hid (GX (w.alloc (.cells #[.int .i64 n0, .slice a es0.length cap] 24)) w.heap.size n0 (.slice a es0.length cap) ∧ Below w.heap.size w (w.alloc (.cells #[.int .i64 n0, .slice a es0.length cap] 24)) ∧ EdR (w.alloc (.cells #[.int .i64 n0, .slice a es0.length cap] 24)) (.slice a es0.length cap) es0) := ⟨heap_alloc_new w _, below_alloc _ _, HR.out.below (below_alloc _ _) (Nat.le_refl _)⟩
  go_enter Try.func3, Try.ntmps3
  go_upto_region 1 with fail
  generalize w.alloc (.cells #[.int .i64 n0, .slice a es0.length cap] 24) = w0 at *
  obtain ⟨c0, c1⟩ := G0.out.1.cells
  have hs0 := G0.out.2.1.size
  go_wp2_with fail
  refine (graphs_any _ es0 n0 _ G0.out.2.2 hL0).mono ?_
  rintro e w1 ⟨c, rfl, hc, hb1⟩
  obtain ⟨ca, cc, rfl⟩ := hc.shape
  have Q1 : Hid (GX (w1.alloc (.cells #[.int .i64 n0, .slice ca es0.length cc] 24)) w.heap.size n0 (.slice a es0.length cap) ∧ GX (w1.alloc (.cells #[.int .i64 n0, .slice ca es0.length cc] 24)) w1.heap.size n0 (.slice ca es0.length cc) ∧ EdR (w1.alloc (.cells #[.int .i64 n0, .slice ca es0.length cc] 24)) (.slice ca es0.length cc) es0 ∧ EdR (w1.alloc (.cells #[.int .i64 n0, .slice ca es0.length cc] 24)) (.slice a es0.length cap) es0 ∧ Below w.heap.size w (w1.alloc (.cells #[.int .i64 n0, .slice ca es0.length cc] 24))) :=
    ⟨(G0.out.1.below hb1 (Nat.le_refl _)).below (below_alloc _ _) (Nat.le_refl _), heap_alloc_new w1 _, hc.below (below_alloc _ _) (Nat.le_refl _), (G0.out.2.2.below hb1 (Nat.le_refl _)).below (below_alloc _ _) (Nat.le_refl _), (G0.out.2.1.trans (hb1.mono hs0)).alloc (by have := hb1.size; omega) _⟩
  clear hc hb1 G0 HR c0 c1
  go_upto_region 2 with fail
  generalize w1.alloc (.cells #[.int .i64 n0, .slice ca es0.length cc] 24) = w2 at *
  generalize w1.heap.size = C at *
  obtain ⟨c0, c1⟩ := Q1.out.2.1.cells
  go_wp2_with fail
  refine (build_any _ es0 n0 n1 n2 w2 Q1.out.2.2.1).mono ?_
  rintro e w3 ⟨v3, rfl, hown3, hb3⟩
  have Q3 : Hid (GX w3 w.heap.size n0 (.slice a es0.length cap) ∧ GX w3 C n0 (.slice ca es0.length cc) ∧ EdR w3 (.slice ca es0.length cc) es0 ∧ EdR w3 (.slice a es0.length cap) es0 ∧ Below w.heap.size w w3 ∧ Reads .u8 w3 v3 (buildF n1 n2 n0 es0).1) :=
    ⟨Q1.out.1.below hb3 (Nat.le_refl _), Q1.out.2.1.below hb3 (Nat.le_refl _), Q1.out.2.2.1.below hb3 (Nat.le_refl _), Q1.out.2.2.2.1.below hb3 (Nat.le_refl _), Q1.out.2.2.2.2.trans (hb3.mono Q1.out.2.2.2.2.size), reads_own hown3⟩
  clear hown3 hb3 Q1 c0 c1
  obtain ⟨c0, c1⟩ := Q3.out.1.cells
  go_wp2_with fail
  refine (built_any _ es0 n0 n1 n2 w3 Q3.out.2.2.2.1 hI2).mono ?_
  rintro e w4 ⟨v4, rfl, hown4, hb4⟩
  have Q4 : Hid (GX w4 w.heap.size n0 (.slice a es0.length cap) ∧ GX w4 C n0 (.slice ca es0.length cc) ∧ EdR w4 (.slice ca es0.length cc) es0 ∧ EdR w4 (.slice a es0.length cap) es0 ∧ Below w.heap.size w w4 ∧ Reads .u8 w4 v3 (buildF n1 n2 n0 es0).1 ∧ Reads .u8 w4 v4 (buildF n1 n2 n0 es0).1) :=
    ⟨Q3.out.1.below hb4 (Nat.le_refl _), Q3.out.2.1.below hb4 (Nat.le_refl _), Q3.out.2.2.1.below hb4 (Nat.le_refl _), Q3.out.2.2.2.1.below hb4 (Nat.le_refl _), Q3.out.2.2.2.2.1.trans (hb4.mono Q3.out.2.2.2.2.1.size), Q3.out.2.2.2.2.2.below hb4 (Nat.le_refl _), reads_own hown4⟩
  clear hown4 hb4 Q3 c0 c1
  generalize buildF n1 n2 n0 es0 = r at *
  obtain ⟨bs, er⟩ := r
  simp only at *
  have hq : (er == er) = true := by simp
  obtain ⟨c0, c1⟩ := Q4.out.1.cells
  obtain ⟨d0, d1⟩ := Q4.out.2.1.cells
  go_wp2_with fail
  refine (sameBytes_any _ _ bs bs w4 Q4.out.2.2.2.2.2.1 Q4.out.2.2.2.2.2.2 HBY.out HBY.out).mono ?_
  rintro e w5 ⟨rfl, rfl⟩
  have b4 : decide (bs = bs) = true := by simp
  rw [b4]
  clear b4
  go_wp2_with fail
  refine (sameGraph_yes _ _ es0 n0 w5 Q4.out.2.2.1 Q4.out.2.2.2.1).mono ?_
  rintro e w6 ⟨rfl, hb6⟩
  have B6 : Hid (Below w.heap.size w w6) := Q4.out.2.2.2.2.1.trans (hb6.mono Q4.out.2.2.2.2.1.size)
  clear hb6
  go_wp2_with fail
  go_ret
  exact ⟨ret_bool (by simp), B6.out⟩

set_option maxHeartbeats 400000 in
set_option maxRecDepth 100000 in
theorem lifted (os : Os) (started : os.Started) (H : Type) (enc : TypeId × Value → H) :
    ReturnsInHanded {} Try.checked os 3 .any (Rows.storeBuildsSpec.pre6 enc Try.prog Try.f3 Rows.storeBuildsRow.domain false) (Rows.storeBuildsSpec.post enc Try.prog Try.f3 false true false false) := by
  refine returnsInHanded_of_change_sized (C := Try.checked) own started (by kernel_rfl) Try.func3
    (ChangeSpec.witness6 (enc := enc) (C := Try.checked) false ⟨#[], #[.agg #[.int .i64 0, .slice none 0 0], .int .i64 0, .int .i64 0], []⟩ 8 (by kernel_rfl) (by kernel_rfl) (by kernel_rfl) (by kernel_rfl)) ?_
  intro W base args ds gs before hval0 hW _ hsz0 _
  have hval : ∀ (j : Nat) t v, Try.f3.params[j]? = some t → args[j]? = some v → Value.okWide Try.prog W .any base t v := hval0
  have hW' := hW
  obtain ⟨p, q, hA0, hV, rfl, hfz, hnd⟩ := hW
  have hA : DataW.TrodAll enc Try.prog W 0 (fun _ => true) true Try.f3.params.toList args.toList ds p := hA0
  have hsz : (DataW.weightsEach Try.prog (Try.f3.params.toList ++ Rows.storeBuildsSpec.plain.varTypes Try.prog) (ds ++ gs)).all (fun x => decide (x ≤ reachBytes)) = true := hsz0
  rw [Try.params3] at hA hval hsz
  obtain ⟨v0, vs0, d0, ds0, p0, q0, hargs, rfl, rfl, h0, r0⟩ := trodAll_cons hA
  obtain ⟨v1, vs1, d1, ds1, p1, q1, rfl, rfl, rfl, h1, r1⟩ := trodAll_cons r0
  obtain ⟨v2, vs2, d2, ds2, p2, q2, rfl, rfl, rfl, h2, r2⟩ := trodAll_cons r1
  obtain ⟨rfl, rfl, rfl⟩ := trodAll_nil r2
  obtain rfl : args = #[v0, v1, v2] := by cases args; simp_all
  obtain ⟨rfl, rfl⟩ := trodVars_none hV
  have k0 := h0
  have lt0 : ∀ x ∈ p0, x.block < W.heap.size := by obtain ⟨m, hm⟩ := k0; exact DataW.trod_lt m _ _ _ hm
  have hw0 : ∀ m ∈ d0.weights Try.prog 24, m ≤ reachBytes := fun m hm => by simpa using List.all_eq_true.1 hsz _ (DataW.weights_mem_each (j := 0) (t := 24) rfl rfl m hm)
  have k1 := h1
  have lt1 : ∀ x ∈ p1, x.block < W.heap.size := by obtain ⟨m, hm⟩ := k1; exact DataW.trod_lt m _ _ _ hm
  have k2 := h2
  have lt2 : ∀ x ∈ p2, x.block < W.heap.size := by obtain ⟨m, hm⟩ := k2; exact DataW.trod_lt m _ _ _ hm
  obtain ⟨n0, w0, es0, rfl, hN0, hR0, hB0, hL0⟩ := open_graph (okWide_struct Try.underlying24 (hval 0 24 v0 rfl rfl)) h0 hw0
  obtain ⟨n1, rfl, _, _, wf1⟩ := open_int Try.underlying3 (hval 1 3 v1 rfl rfl) h1
  have hI1 := bounds_i64 wf1
  obtain ⟨n2, rfl, _, _, wf2⟩ := open_int Try.underlying3 (hval 2 3 v2 rfl rfl) h2
  have hI2 := bounds_i64 wf2
  clear hA0 hval0
  refine (walk w0 n0 es0 n1 n2 W hN0 hR0 hB0 hL0 hI1 hI2).mono fun e W' ⟨he, bel⟩ => ?_
  subst he
  exact ⟨_, rfl, _, _, _, [], _, [], hW', trodAll_mk1 (shut_bool Try.underlying4 _), (trodAll_cons_mk (Below.trod laidOut (by kernel_rfl) (of_decide_eq_true (by kernel_rfl)) k0 bel lt0) (trodAll_cons_mk (Below.trod laidOut (by kernel_rfl) (of_decide_eq_true (by kernel_rfl)) k1 bel lt1) (trodAll_cons_mk (Below.trod laidOut (by kernel_rfl) (of_decide_eq_true (by kernel_rfl)) k2 bel lt2) trodAll_mk0))), rfl, bel.frame _, fun h => by cases h⟩

theorem over : Rows.storeBuildsRow.holds Try.pinned (OpenSpec.ofChange Rows.storeBuildsSpec) :=
  OpenClaim.holds_of_wide 3 Try.f3 rfl rfl rfl rfl rfl rfl rfl ⟨rfl, rfl, rfl, rfl, rfl⟩ rfl rfl rfl rfl rfl (by kernel_rfl) Try.func3 (by kernel_rfl)
    (of_decide_eq_true (by kernel_rfl)) (by unfold Func.isWrapper; first | (rw [if_pos (by decide +kernel)]; kernel_rfl) | (rw [if_neg (by decide +kernel)]; exact ⟨rfl, rfl⟩))
    (fun os started H enc _ => lifted os started H enc)

/-- The statement. -/
theorem proved : Rows.StoreBuildsSaid := over
#print axioms proved
end Go.Proofs.Ytacpicnihgggaaa.storeBuilds
