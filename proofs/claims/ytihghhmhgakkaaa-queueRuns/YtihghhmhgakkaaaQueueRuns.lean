/-
  For every number and every list of raw numbers: a queue that is filled piece by piece has a run for each time that the budget was reached, and the rest is loose (the law QueueRuns returns true, and its arguments read as before); no condition.
-/
import Derived.Test.YtihghhmhgakkaaaKeepMail
import Derived.Test.YtihghhmhgakkaaaQueueRunsPartC
import Derived.WalkKit
import Derived.ProofKit
import Derived.OpenShut
import Derived.ShutString
import Derived.SizedLaws
import Derived.ChangeOld
import Derived.Below
import Derived.Deep.QuietTactic
import Derived.BigQuiet
import Derived.Lib.QuietBelow
namespace Go.Proofs.Ytihghhmhgakkaaa.queueRuns
set_option maxRecDepth 100000
open Go.ChangeShapes Go.WideShapes Go.ChangeAt Go.RowKit

theorem own : ownKnob Try.prog.godebug = none := by kernel_rfl
theorem laidOut : laidOutB Try.prog = true := by kernel_rfl
theorem post_may (es : List Ml) : mayA (postL es) = true := by
  refine mayA_iff.2 fun m hm => ?_
  unfold postL at hm
  obtain ⟨x, _, rfl⟩ := List.mem_map.1 hm
  have h1 := pickF_bd x.1 6 (by decide)
  have h2 := pickF_bd x.2 1000 (by decide)
  refine mayM_iff.2 ?_
  show 0 ≤ pickF x.1 6 ∧ pickF x.1 6 < 200 ∧ 0 ≤ pickF x.2 1000 ∧ pickF x.2 1000 ≤ 4398046511104
  omega
set_option maxHeartbeats 1000000 in
set_option maxRecDepth 100000 in
theorem walk (n0 : Int) (v1 : Value) (es1 : List Ml) (w : World) (hI0 : -9223372036854775808 ≤ n0 ∧ n0 ≤ 9223372036854775807) (hR1 : MlR w v1 es1) (hB1 : ∀ x ∈ es1, mlB x) (hL1 : es1.length * 16 ≤ 140737488351232) :
    Calls Try.prog 8 #[.int .i64 n0, v1] w fun e w' => e = .returned (.bool true) ∧ Below w.heap.size w w' := by
  have _u := hI0
  clear _u
  have _u := hR1
  clear _u
  have _u := hB1
  clear _u
  have _u := hL1
  clear _u
  have HR : Hid (MlR w v1 es1) := hR1
  have HPB : Hid (∀ x ∈ es1, mlB x) := hB1
  have hpk := pickF_bd n0 6 (by decide)
  obtain ⟨B, hB, hB1', hB2'⟩ : ∃ B : Nat, IntKind.i64.wrap (1 + pickF n0 6) = (B : Int) ∧ 1 ≤ B ∧ B ≤ 6 := ⟨(1 + pickF n0 6).toNat, by rw [IntKind.wrap_i64]; omega, by omega, by omega⟩
  have HPK : Hid (∀ X, Calls Try.prog 18 #[.int .i64 n0, .int .i64 6] X fun e w' => e = .returned (.int .i64 (pickF n0 6)) ∧ X = w') := fun X => (picked_any n0 6 X hI0.1 hI0.2 (by omega) (by omega)).mono fun _ _ h => ⟨h.1, h.2.symm⟩
  obtain ⟨a, cap, rfl⟩ := hR1.shape
  clear hR1 hB1 hpk
  generalize pickF n0 6 = pk at *
  go_enter Try.func8, Try.ntmps8
  go_wp2_with fail
  refine (HPK.out _).mono ?_
  rintro e w1 ⟨rfl, rfl⟩
  go_wp2_with fail
  refine (posts_any _ es1 _ HR.out HPB.out).mono ?_
  rintro e w1 ⟨c, rfl, ho1, hb1⟩
  have C1 : Hid (MlR w1 c (postL es1)) := MlR.ownd ho1
  have B1 : Hid (Below w.heap.size w w1) := hb1
  have hl40 := postL_len es1
  have HMY : Hid (mayA (postL es1) = true) := post_may es1
  obtain ⟨ca, cc, rfl⟩ := C1.out.shape
  have hs1 := hb1.size
  clear ho1 hb1
  generalize postL es1 = l at *
  go_wp2_with fail
  refine (filled_any B _ l _ C1.out HMY.out hB1' (by omega) hl40).mono ?_
  rintro e w2 ⟨lo, rs, f, vl, vr, most, rfl, hf, hmo, hq, hb2⟩
  obtain ⟨xa, xc, rfl⟩ := hq.1.shape
  obtain ⟨ya, yc, rfl, _⟩ := id hq.2
  have X2 : Hid (QX (w2.alloc (.cells #[.int .i64 (B : Int), .slice xa lo.length xc, .slice ya rs.length yc] 25)) w2.heap.size (.int .i64 (B : Int)) (.slice xa lo.length xc) (.slice ya rs.length yc)) := QX.new _ _ _ _
  have B2 : Hid (Below w.heap.size w (w2.alloc (.cells #[.int .i64 (B : Int), .slice xa lo.length xc, .slice ya rs.length yc] 25))) := (B1.out.trans (hb2.mono hs1)).alloc (Nat.le_trans hs1 hb2.size) _
  have HR1 : Hid (rs.length = l.length / B) := hf.runs
  have HL1 : Hid (lo.length = l.length % B) := hf.loose
  clear hq hb2 hf
  go_upto_region 4 with fail
  generalize w2.alloc (.cells #[.int .i64 (B : Int), .slice xa lo.length xc, .slice ya rs.length yc] 25) = W2 at *
  generalize w2.heap.size = nb at *
  obtain ⟨q0, q1, q2⟩ := X2.out.cells
  have hq1 : Int.tdiv (l.length : Int) (B : Int) = (rs.length : Int) := by rw [HR1.out, Int.tdiv_eq_ediv_of_nonneg (by omega), ← Int.natCast_ediv]
  have hq2 : Int.tmod (l.length : Int) (B : Int) = (lo.length : Int) := by rw [HL1.out, Int.tmod_eq_emod_of_nonneg (by omega), ← Int.natCast_emod]
  have hl1 : rs.length ≤ 40 := by rw [HR1.out]; exact Nat.le_trans (Nat.div_le_self _ _) hl40
  have hl2 : lo.length ≤ 40 := by rw [HL1.out]; exact Nat.le_trans (Nat.mod_le _ _) hl40
  have hb0 : ¬ B = 0 := by omega
  have e1 : ((rs.length : Int) == (rs.length : Int)) = true := by simp
  have e2 : ((lo.length : Int) == (lo.length : Int)) = true := by simp
  have e3 : ((B : Int) == (B : Int)) = true := by simp
  have hw1 : IntKind.i64.wrap (rs.length : Int) = (rs.length : Int) := by rw [IntKind.wrap_i64]; omega
  have hw2 : IntKind.i64.wrap (lo.length : Int) = (lo.length : Int) := by rw [IntKind.wrap_i64]; omega
  have B9 : Hid (∀ m, Below w.heap.size w (W2.drewN m)) := fun m => below_drewN B2.out m
  by_cases hl0 : (0 : Int) < (l.length : Int)
  · clear HR1 HL1
    generalize l.length = ll at *
    have hll : ¬ ll = 0 := by omega
    go_quiet (fail)
    go_wp2_with fail
    go_ret
    exact ⟨ret_bool (by simp), B9.out _⟩
  · have hl9 : l.length = 0 := by omega
    have hr9 : rs = [] := List.eq_nil_of_length_eq_zero (by have := HR1.out; rw [hl9, Nat.zero_div] at this; exact this)
    have hr8 : lo = [] := List.eq_nil_of_length_eq_zero (by have := HL1.out; rw [hl9, Nat.zero_mod] at this; exact this)
    clear HR1 HL1 hq1 hq2 hw1 hw2 e1 e2 hl1 hl2 hl0
    subst hr9 hr8
    generalize l.length = ll at *
    subst hl9
    have e8 : ((0 : Int) == 0) = true := rfl
    go_quiet (fail)
    go_wp2_with fail
    go_ret
    exact ⟨ret_bool (by simp), B9.out _⟩

set_option maxHeartbeats 400000 in
set_option maxRecDepth 100000 in
theorem lifted (os : Os) (started : os.Started) (H : Type) (enc : TypeId × Value → H) :
    ReturnsInHanded {} Try.checked os 8 .any (Rows.queueRunsSpec.pre6 enc Try.prog Try.f8 Rows.queueRunsRow.domain false) (Rows.queueRunsSpec.post enc Try.prog Try.f8 false true false false) := by
  refine returnsInHanded_of_change_sized (C := Try.checked) own started (by kernel_rfl) Try.func8
    (ChangeSpec.witness6 (enc := enc) (C := Try.checked) false ⟨#[], #[.int .i64 0, .slice none 0 0], []⟩ 8 (by kernel_rfl) (by kernel_rfl) (by kernel_rfl) (by kernel_rfl)) ?_
  intro W base args ds gs before hval0 hW _ hsz0 _
  have hval : ∀ (j : Nat) t v, Try.f8.params[j]? = some t → args[j]? = some v → Value.okWide Try.prog W .any base t v := hval0
  have hW' := hW
  obtain ⟨p, q, hA0, hV, rfl, hfz, hnd⟩ := hW
  have hA : DataW.TrodAll enc Try.prog W 0 (fun _ => true) true Try.f8.params.toList args.toList ds p := hA0
  have hsz : (DataW.weightsEach Try.prog (Try.f8.params.toList ++ Rows.queueRunsSpec.plain.varTypes Try.prog) (ds ++ gs)).all (fun x => decide (x ≤ reachBytes)) = true := hsz0
  rw [Try.params8] at hA hval hsz
  obtain ⟨v0, vs0, d0, ds0, p0, q0, hargs, rfl, rfl, h0, r0⟩ := trodAll_cons hA
  obtain ⟨v1, vs1, d1, ds1, p1, q1, rfl, rfl, rfl, h1, r1⟩ := trodAll_cons r0
  obtain ⟨rfl, rfl, rfl⟩ := trodAll_nil r1
  obtain rfl : args = #[v0, v1] := by cases args; simp_all
  obtain ⟨rfl, rfl⟩ := trodVars_none hV
  have k0 := h0
  have lt0 : ∀ x ∈ p0, x.block < W.heap.size := by obtain ⟨m, hm⟩ := k0; exact DataW.trod_lt m _ _ _ hm
  have k1 := h1
  have lt1 : ∀ x ∈ p1, x.block < W.heap.size := by obtain ⟨m, hm⟩ := k1; exact DataW.trod_lt m _ _ _ hm
  have hw1 : ∀ m ∈ d1.weights Try.prog 40, m ≤ reachBytes := fun m hm => by simpa using List.all_eq_true.1 hsz _ (DataW.weights_mem_each (j := 1) (t := 40) rfl rfl m hm)
  obtain ⟨n0, rfl, _, _, wf0⟩ := open_int Try.underlying3 (hval 0 3 v0 rfl rfl) h0
  have hI0 := bounds_i64 wf0
  obtain ⟨es1, hR1, hB1, hL1⟩ := open_posts (okWide_slice Try.underlying40 (hval 1 40 v1 rfl rfl)) h1 hw1
  clear hA0 hval0
  refine (walk n0 v1 es1 W hI0 hR1 hB1 hL1).mono fun e W' ⟨he, bel⟩ => ?_
  subst he
  exact ⟨_, rfl, _, _, _, [], _, [], hW', trodAll_mk1 (shut_bool Try.underlying4 _), (trodAll_cons_mk (Below.trod laidOut (by kernel_rfl) (of_decide_eq_true (by kernel_rfl)) k0 bel lt0) (trodAll_cons_mk (Below.trod laidOut (by kernel_rfl) (of_decide_eq_true (by kernel_rfl)) k1 bel lt1) trodAll_mk0)), rfl, bel.frame _, fun h => by cases h⟩

theorem over : Rows.queueRunsRow.holds Try.pinned (OpenSpec.ofChange Rows.queueRunsSpec) :=
  OpenClaim.holds_of_wide 8 Try.f8 rfl rfl rfl rfl rfl rfl rfl ⟨rfl, rfl, rfl, rfl, rfl⟩ rfl rfl rfl rfl rfl (by kernel_rfl) Try.func8 (by kernel_rfl)
    (of_decide_eq_true (by kernel_rfl)) (by unfold Func.isWrapper; first | (rw [if_pos (by decide +kernel)]; kernel_rfl) | (rw [if_neg (by decide +kernel)]; exact ⟨rfl, rfl⟩))
    (fun os started H enc _ => lifted os started H enc)

/-- The statement. -/
theorem proved : Rows.QueueRunsSaid := over
#print axioms proved
end Go.Proofs.Ytihghhmhgakkaaa.queueRuns
