/-
  For every queue queue.Count answers what P9.6 says (the law QueueCounts returns true, and its argument reads as before); no condition.
-/
import Derived.Test.YtihghhmhgakkaaaQueueOpen
import Derived.Test.YtihghhmhgakkaaaQueueCountsPartA
import Derived.Test.YtihghhmhgakkaaaQueueCountsPartB
import Derived.WalkKit
import Derived.ProofKit
import Derived.OpenShut
import Derived.ShutString
import Derived.SizedLaws
import Derived.ChangeOld
import Derived.Below
namespace Go.Proofs.Ytihghhmhgakkaaa.queueCounts
set_option maxRecDepth 100000
open Go.ChangeShapes Go.WideShapes Go.ChangeAt Go.RowKit

theorem own : ownKnob Try.prog.godebug = none := by kernel_rfl
theorem laidOut : laidOutB Try.prog = true := by kernel_rfl

set_option maxHeartbeats 1000000 in
set_option maxRecDepth 100000 in
theorem walk (vl0 vr0 : Value) (n0 : Int) (lo0 : List Ml) (rs0 : List (List Int)) (w : World) (hN0 : i64B n0) (hR0 : QuR w vl0 vr0 lo0 rs0) (hB0 : QuB lo0 rs0) :
    Calls Try.prog 5 #[.agg #[.int .i64 n0, vl0, vr0]] w fun e w' => e = .returned (.bool true) ∧ Below w.heap.size w w' := by
  have _u := hN0
  clear _u
  have _u := hR0
  clear _u
  have _u := hB0
  clear _u
  have HR : Hid (QuR w vl0 vr0 lo0 rs0) := hR0
  have HBd : Hid (QuB lo0 rs0) := hB0
  obtain ⟨a, cap, rfl⟩ := hR0.1.shape
  obtain ⟨c, cap2, rfl, _⟩ := id hR0.2
  clear hR0 hB0
  go_enter Try.func5, Try.ntmps5
  go_wp2_with fail
  refine (queues_any n0 _ _ lo0 rs0 _ (HR.out.below (below_alloc _ _) (Nat.le_refl _)) HBd.out).mono ?_
  rintro e w1 ⟨xl, xr, rfl, hq1, hb1⟩
  have hb1' : Below (w.heap.size + 1) (w.alloc (.cells #[.int .i64 n0, .slice a lo0.length cap, .slice c rs0.length cap2] 25)) w1 := by simpa using hb1
  have B1 : Hid (Below w.heap.size w w1) := box_below hb1'
  have Q1 : Hid (QX w1 w.heap.size (.int .i64 n0) (.slice a lo0.length cap) (.slice c rs0.length cap2)) := (QX.new w _ _ _).below hb1' (Nat.lt_succ_self _)
  have R1 : Hid (QuR w1 xl xr lo0 rs0) := hq1
  have hs1 := B1.out.size
  obtain ⟨xa, xc, rfl⟩ := hq1.1.shape
  obtain ⟨ya, yc, rfl, _⟩ := id hq1.2
  clear hq1 hb1 hb1'
  go_wp2_with fail
  refine (queueCount_any n0 _ _ lo0 rs0 _ R1.out HBd.out).mono ?_
  rintro e w2 ⟨rfl, hb2⟩
  have B2 : Hid (Below w.heap.size w w2) := B1.out.trans (hb2.mono hs1)
  obtain ⟨q0, q1, q2⟩ := (Q1.out.below hb2 Q1.out.lt).cells
  have HC : Hid (∀ X, QuR X (.slice a lo0.length cap) (.slice c rs0.length cap2) lo0 rs0 → Calls Try.prog 17 #[.agg #[.int .i64 n0, .slice a lo0.length cap, .slice c rs0.length cap2]] X (CntP X lo0 (quF n0 lo0 rs0))) := fun X hX => refCount_any n0 _ _ lo0 rs0 X hX HBd.out
  unfold CntP at HC
  generalize ((countF lo0 (quF n0 lo0 rs0) : Nat) : Int) = cc at *
  generalize errQ (quF n0 lo0 rs0) = qq at *
  have hs2 := B2.out.size
  have hcc : (cc == cc) = true := by simp
  have hqq : (qq == qq) = true := by simp
  clear hb2 Q1
  go_wp2_with fail
  refine (HC.out _ (HR.out.below B2.out (Nat.le_refl _))).mono ?_
  rintro e w3 ⟨rfl, hb3⟩
  have B3 : Hid (Below w.heap.size w w3) := B2.out.trans (hb3.mono hs2)
  clear hb3
  go_wp2_with fail
  go_ret
  exact ⟨ret_bool (by simp), B3.out⟩

set_option maxHeartbeats 400000 in
set_option maxRecDepth 100000 in
theorem lifted (os : Os) (started : os.Started) (H : Type) (enc : TypeId × Value → H) :
    ReturnsInHanded {} Try.checked os 5 .any (Rows.queueCountsSpec.pre6 enc Try.prog Try.f5 Rows.queueCountsRow.domain false) (Rows.queueCountsSpec.post enc Try.prog Try.f5 false true false false) := by
  refine returnsInHanded_of_change_sized (C := Try.checked) own started (by kernel_rfl) Try.func5
    (ChangeSpec.witness6 (enc := enc) (C := Try.checked) false ⟨#[], #[.agg #[.int .i64 0, .slice none 0 0, .slice none 0 0]], []⟩ 8 (by kernel_rfl) (by kernel_rfl) (by kernel_rfl) (by kernel_rfl)) ?_
  intro W base args ds gs before hval0 hW _ hsz0 _
  have hval : ∀ (j : Nat) t v, Try.f5.params[j]? = some t → args[j]? = some v → Value.okWide Try.prog W .any base t v := hval0
  have hW' := hW
  obtain ⟨p, q, hA0, hV, rfl, hfz, hnd⟩ := hW
  have hA : DataW.TrodAll enc Try.prog W 0 (fun _ => true) true Try.f5.params.toList args.toList ds p := hA0
  have hsz : (DataW.weightsEach Try.prog (Try.f5.params.toList ++ Rows.queueCountsSpec.plain.varTypes Try.prog) (ds ++ gs)).all (fun x => decide (x ≤ reachBytes)) = true := hsz0
  rw [Try.params5] at hA hval hsz
  obtain ⟨v0, vs0, d0, ds0, p0, q0, hargs, rfl, rfl, h0, r0⟩ := trodAll_cons hA
  obtain ⟨rfl, rfl, rfl⟩ := trodAll_nil r0
  obtain rfl : args = #[v0] := by cases args; simp_all
  obtain ⟨rfl, rfl⟩ := trodVars_none hV
  have k0 := h0
  have lt0 : ∀ x ∈ p0, x.block < W.heap.size := by obtain ⟨m, hm⟩ := k0; exact DataW.trod_lt m _ _ _ hm
  have hw0 : ∀ m ∈ d0.weights Try.prog 25, m ≤ reachBytes := fun m hm => by simpa using List.all_eq_true.1 hsz _ (DataW.weights_mem_each (j := 0) (t := 25) rfl rfl m hm)
  obtain ⟨n0, vl0, vr0, lo0, rs0, rfl, hN0, hR0, hB0⟩ := open_queue (okWide_struct Try.underlying25 (hval 0 25 v0 rfl rfl)) h0 hw0
  clear hA0 hval0
  refine (walk vl0 vr0 n0 lo0 rs0 W hN0 hR0 hB0).mono fun e W' ⟨he, bel⟩ => ?_
  subst he
  exact ⟨_, rfl, _, _, _, [], _, [], hW', trodAll_mk1 (shut_bool Try.underlying4 _), (trodAll_cons_mk (Below.trod laidOut (by kernel_rfl) (of_decide_eq_true (by kernel_rfl)) k0 bel lt0) trodAll_mk0), rfl, bel.frame _, fun h => by cases h⟩

theorem over : Rows.queueCountsRow.holds Try.pinned (OpenSpec.ofChange Rows.queueCountsSpec) :=
  OpenClaim.holds_of_wide 5 Try.f5 rfl rfl rfl rfl rfl rfl rfl ⟨rfl, rfl, rfl, rfl, rfl⟩ rfl rfl rfl rfl rfl (by kernel_rfl) Try.func5 (by kernel_rfl)
    (of_decide_eq_true (by kernel_rfl)) (by unfold Func.isWrapper; first | (rw [if_pos (by decide +kernel)]; kernel_rfl) | (rw [if_neg (by decide +kernel)]; exact ⟨rfl, rfl⟩))
    (fun os started H enc _ => lifted os started H enc)

/-- The statement. -/
theorem proved : Rows.QueueCountsSaid := over
#print axioms proved
end Go.Proofs.Ytihghhmhgakkaaa.queueCounts
