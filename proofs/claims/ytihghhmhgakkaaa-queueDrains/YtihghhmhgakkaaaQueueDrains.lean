/-
  For every queue queue.Drain answers what P9.5 says and leaves its argument alone (the law QueueDrains returns true, and its argument reads as before); no condition.
-/
import Derived.Test.YtihghhmhgakkaaaQueueOpen
import Derived.Test.YtihghhmhgakkaaaQueueDrainsPartA
import Derived.Test.YtihghhmhgakkaaaQueueDrainsPartB
import Derived.Test.YtihghhmhgakkaaaQueueDrainsPartC
import Derived.WalkKit
import Derived.ProofKit
import Derived.OpenShut
import Derived.ShutString
import Derived.SizedLaws
import Derived.ChangeOld
import Derived.Below
namespace Go.Proofs.Ytihghhmhgakkaaa.queueDrains
set_option maxRecDepth 100000
open Go.ChangeShapes Go.WideShapes Go.ChangeAt Go.RowKit

theorem own : ownKnob Try.prog.godebug = none := by kernel_rfl
theorem laidOut : laidOutB Try.prog = true := by kernel_rfl

set_option maxHeartbeats 1000000 in
set_option maxRecDepth 100000 in
theorem walk (vl0 vr0 : Value) (n0 : Int) (lo0 : List Ml) (rs0 : List (List Int)) (w : World) (hN0 : i64B n0) (hR0 : QuR w vl0 vr0 lo0 rs0) (hB0 : QuB lo0 rs0) :
    Calls Try.prog 4 #[.agg #[.int .i64 n0, vl0, vr0]] w fun e w' => e = .returned (.bool true) ∧ Below w.heap.size w w' := by
  have _u := hN0
  clear _u
  have _u := hR0
  clear _u
  have _u := hB0
  clear _u
  have HR : Hid (QuR w vl0 vr0 lo0 rs0) := hR0
  have HBd : Hid (QuB lo0 rs0) := hB0
  have HBY : Hid (∀ l ∈ rs0, ∀ x ∈ l, 0 ≤ x ∧ x ≤ 255) := fun l hl => (hB0.2.1 l hl).1
  obtain ⟨a, cap, rfl⟩ := hR0.1.shape
  obtain ⟨c, cap2, rfl, _⟩ := id hR0.2
  clear hR0 hB0
  go_enter Try.func4, Try.ntmps4
  go_wp2_with fail
  refine (queues_any n0 _ _ lo0 rs0 _ (HR.out.below (below_alloc _ _) (Nat.le_refl _)) HBd.out).mono ?_
  rintro e w1 ⟨xl, xr, rfl, hq1, hb1⟩
  have hb1' : Below (w.heap.size + 1) (w.alloc (.cells #[.int .i64 n0, .slice a lo0.length cap, .slice c rs0.length cap2] 25)) w1 := by simpa using hb1
  have B1 : Hid (Below w.heap.size w w1) := box_below hb1'
  have Q1 : Hid (QX w1 w.heap.size (.int .i64 n0) (.slice a lo0.length cap) (.slice c rs0.length cap2)) := (QX.new w _ _ _).below hb1' (Nat.lt_succ_self _)
  have R1 : Hid (QuR w1 xl xr lo0 rs0) := hq1
  have hs1 := B1.out.size
  obtain ⟨xa, xc, rfl⟩ := hq1.1.shape
  obtain ⟨ya, yc, rfl, _⟩ := id hq1.2
  clear hq1 hb1 hb1'
  go_wp2_with fail
  refine (queueDrain_any n0 _ _ lo0 rs0 _ (R1.out.below (below_alloc _ _) (Nat.le_refl _)) HBd.out).mono ?_
  rintro e w2 h2
  obtain ⟨va, vn, vc, rfl, hr2, _, hb2⟩ := h2.reads
  have hb2' : Below (w1.heap.size + 1) (w1.alloc (.cells #[.int .i64 n0, .slice xa lo0.length xc, .slice ya rs0.length yc] 25)) w2 := by simpa using hb2
  have b2 : Below w1.heap.size w1 w2 := box_below hb2'
  have B2 : Hid (Below w.heap.size w w2) := B1.out.trans (b2.mono hs1)
  have Q2 : Hid (QX w2 w.heap.size (.int .i64 n0) (.slice a lo0.length cap) (.slice c rs0.length cap2)) := Q1.out.below b2 Q1.out.lt
  have X2 : Hid (QX w2 w1.heap.size (.int .i64 n0) (.slice xa lo0.length xc) (.slice ya rs0.length yc)) := (QX.new w1 _ _ _).below hb2' (Nat.lt_succ_self _)
  have R2 : Hid (QuR w2 (.slice xa lo0.length xc) (.slice ya rs0.length yc) lo0 rs0) := R1.out.below b2 (Nat.le_refl _)
  have D2 : Hid (MlR w2 (.slice va vn vc) (okL (errQ (quF n0 lo0 rs0)) (drainF lo0 (quF n0 lo0 rs0)))) := hr2
  have hs2 := B2.out.size
  obtain ⟨q0, q1, q2⟩ := Q2.out.cells
  clear h2 hr2 hb2 hb2' b2 Q1 R1 B1
  go_wp2_with fail
  refine (refDrained_any n0 _ _ lo0 rs0 _ (HR.out.below B2.out (Nat.le_refl _)) HBd.out).mono ?_
  rintro e w3 h3
  obtain ⟨wa, wn, wc, rfl, hr3, _, hb3⟩ := h3.reads
  have B3 : Hid (Below w.heap.size w w3) := B2.out.trans (hb3.mono hs2)
  have Q3 : Hid (QX w3 w.heap.size (.int .i64 n0) (.slice a lo0.length cap) (.slice c rs0.length cap2)) := Q2.out.below hb3 Q2.out.lt
  have X3 : Hid (QX w3 w1.heap.size (.int .i64 n0) (.slice xa lo0.length xc) (.slice ya rs0.length yc)) := X2.out.below hb3 X2.out.lt
  have R3 : Hid (QuR w3 (.slice xa lo0.length xc) (.slice ya rs0.length yc) lo0 rs0) := R2.out.below hb3 (Nat.le_refl _)
  have D3 : Hid (MlR w3 (.slice va vn vc) (okL (errQ (quF n0 lo0 rs0)) (drainF lo0 (quF n0 lo0 rs0)))) := D2.out.below hb3 (Nat.le_refl _)
  have E3 : Hid (MlR w3 (.slice wa wn wc) (okL (errQ (quF n0 lo0 rs0)) (drainF lo0 (quF n0 lo0 rs0)))) := hr3
  have hs3 := B3.out.size
  clear h3 hr3 hb3 Q2 X2 R2 D2 B2 q0 q1 q2
  generalize okL (errQ (quF n0 lo0 rs0)) (drainF lo0 (quF n0 lo0 rs0)) = L at *
  generalize errQ (quF n0 lo0 rs0) = qq at *
  have hqq : (qq == qq) = true := by simp
  go_wp2_with fail
  refine (sameMails_yes _ _ L _ D3.out E3.out).mono ?_
  rintro e w4 ⟨rfl, hb4⟩
  have B4 : Hid (Below w.heap.size w w4) := B3.out.trans (hb4.mono hs3)
  have R4 : Hid (QuR w4 (.slice xa lo0.length xc) (.slice ya rs0.length yc) lo0 rs0) := R3.out.below hb4 (Nat.le_refl _)
  obtain ⟨q0, q1, q2⟩ := (Q3.out.below hb4 Q3.out.lt).cells
  obtain ⟨x0, x1, x2⟩ := (X3.out.below hb4 X3.out.lt).cells
  have hs4 := B4.out.size
  clear hb4 Q3 X3 R3 D3 E3
  go_wp2_with fail
  refine (sameQueue_yes n0 _ _ _ _ lo0 rs0 _ R4.out (HR.out.below B4.out (Nat.le_refl _)) HBY.out).mono ?_
  rintro e w5 ⟨rfl, hb5⟩
  have B5 : Hid (Below w.heap.size w w5) := B4.out.trans (hb5.mono hs4)
  clear hb5
  go_wp2_with fail
  go_ret
  exact ⟨ret_bool (by simp), B5.out⟩

set_option maxHeartbeats 400000 in
set_option maxRecDepth 100000 in
theorem lifted (os : Os) (started : os.Started) (H : Type) (enc : TypeId × Value → H) :
    ReturnsInHanded {} Try.checked os 4 .any (Rows.queueDrainsSpec.pre6 enc Try.prog Try.f4 Rows.queueDrainsRow.domain false) (Rows.queueDrainsSpec.post enc Try.prog Try.f4 false true false false) := by
  refine returnsInHanded_of_change_sized (C := Try.checked) own started (by kernel_rfl) Try.func4
    (ChangeSpec.witness6 (enc := enc) (C := Try.checked) false ⟨#[], #[.agg #[.int .i64 0, .slice none 0 0, .slice none 0 0]], []⟩ 8 (by kernel_rfl) (by kernel_rfl) (by kernel_rfl) (by kernel_rfl)) ?_
  intro W base args ds gs before hval0 hW _ hsz0 _
  have hval : ∀ (j : Nat) t v, Try.f4.params[j]? = some t → args[j]? = some v → Value.okWide Try.prog W .any base t v := hval0
  have hW' := hW
  obtain ⟨p, q, hA0, hV, rfl, hfz, hnd⟩ := hW
  have hA : DataW.TrodAll enc Try.prog W 0 (fun _ => true) true Try.f4.params.toList args.toList ds p := hA0
  have hsz : (DataW.weightsEach Try.prog (Try.f4.params.toList ++ Rows.queueDrainsSpec.plain.varTypes Try.prog) (ds ++ gs)).all (fun x => decide (x ≤ reachBytes)) = true := hsz0
  rw [Try.params4] at hA hval hsz
  obtain ⟨v0, vs0, d0, ds0, p0, q0, hargs, rfl, rfl, h0, r0⟩ := trodAll_cons hA
  obtain ⟨rfl, rfl, rfl⟩ := trodAll_nil r0
  obtain rfl : args = #[v0] := by cases args; simp_all
  obtain ⟨rfl, rfl⟩ := trodVars_none hV
  have k0 := h0
  have lt0 : ∀ x ∈ p0, x.block < W.heap.size := by obtain ⟨m, hm⟩ := k0; exact DataW.trod_lt m _ _ _ hm
  have hw0 : ∀ m ∈ d0.weights Try.prog 25, m ≤ reachBytes := fun m hm => by simpa using List.all_eq_true.1 hsz _ (DataW.weights_mem_each (j := 0) (t := 25) rfl rfl m hm)
  obtain ⟨n0, vl0, vr0, lo0, rs0, rfl, hN0, hR0, hB0⟩ := open_queue (okWide_struct Try.underlying25 (hval 0 25 v0 rfl rfl)) h0 hw0
  clear hA0 hval0
  refine (walk vl0 vr0 n0 lo0 rs0 W hN0 hR0 hB0).mono fun e W' ⟨he, bel⟩ => ?_
  subst he
  exact ⟨_, rfl, _, _, _, [], _, [], hW', trodAll_mk1 (shut_bool Try.underlying4 _), (trodAll_cons_mk (Below.trod laidOut (by kernel_rfl) (of_decide_eq_true (by kernel_rfl)) k0 bel lt0) trodAll_mk0), rfl, bel.frame _, fun h => by cases h⟩

theorem over : Rows.queueDrainsRow.holds Try.pinned (OpenSpec.ofChange Rows.queueDrainsSpec) :=
  OpenClaim.holds_of_wide 4 Try.f4 rfl rfl rfl rfl rfl rfl rfl ⟨rfl, rfl, rfl, rfl, rfl⟩ rfl rfl rfl rfl rfl (by kernel_rfl) Try.func4 (by kernel_rfl)
    (of_decide_eq_true (by kernel_rfl)) (by unfold Func.isWrapper; first | (rw [if_pos (by decide +kernel)]; kernel_rfl) | (rw [if_neg (by decide +kernel)]; exact ⟨rfl, rfl⟩))
    (fun os started H enc _ => lifted os started H enc)

/-- The statement. -/
theorem proved : Rows.QueueDrainsSaid := over
#print axioms proved
end Go.Proofs.Ytihghhmhgakkaaa.queueDrains
