/-
  For every queue and piece of mail queue.Push answers what P9.4 says and leaves its arguments alone (the law QueuePushes returns true, and its arguments read as before); no condition.
-/
import Derived.Test.YtihghhmhgakkaaaQueueOpen
import Derived.Test.YtihghhmhgakkaaaQueuePushesPartB
import Derived.Test.YtihghhmhgakkaaaQueuePushesPartD
import Derived.WalkKit
import Derived.ProofKit
import Derived.OpenShut
import Derived.ShutString
import Derived.SizedLaws
import Derived.ChangeOld
import Derived.Below
namespace Go.Proofs.Ytihghhmhgakkaaa.queuePushes
set_option maxRecDepth 100000
open Go.ChangeShapes Go.WideShapes Go.ChangeAt Go.RowKit

theorem own : ownKnob Try.prog.godebug = none := by kernel_rfl
theorem laidOut : laidOutB Try.prog = true := by kernel_rfl
theorem put_low {m : Ml} (h : mayM m = true) : ∀ x ∈ put m.2, 0 ≤ x ∧ x ≤ 255 := by
  have := mayM_iff.1 h
  exact put_bytes (by omega) (by omega)
theorem runB_low {l : List Ml} (h1 : mayA l = true) (h2 : srtMb l = true) (h3 : l.length ≤ 1000) : ∀ x ∈ runB l, 0 ≤ x ∧ x ≤ 255 := by
  intro x hx
  rw [runB_eq] at hx
  rcases List.mem_append.1 hx with hx | hx
  · exact gapsF_bytes (named_run h1 h2 h3) x hx
  · unfold valsB at hx
    obtain ⟨y, hy, hx⟩ := List.mem_flatMap.1 hx
    exact put_low (mayA_iff.1 h1 y hy) x hx
theorem rns_low {n : Int} {lo : List Ml} {rs : List (List Int)} {m : Ml} (hb : ∀ l ∈ rs, ∀ x ∈ l, 0 ≤ x ∧ x ≤ 255) : ∀ l ∈ okL (pushE lo m (quF n lo rs)) (rnsF n lo rs m), ∀ x ∈ l, 0 ≤ x ∧ x ≤ 255 := by
  by_cases hp : pushE lo m (quF n lo rs) = 0
  · rw [hp, okL_yes]
    cases ho : quF n lo rs with
    | none => rw [ho] at hp; exact absurd hp (by show (9 : Int) ≠ 0; decide)
    | some f =>
      obtain ⟨_, h2, h3, _, h5, _⟩ := quF_inv ho
      have hm : mayM m = true := by
        cases hm : mayM m with
        | true => rfl
        | false => rw [ho] at hp; unfold pushE at hp; rw [hm] at hp; exact absurd hp (by show (2 : Int) ≠ 0; decide)
      unfold rnsF
      split
      · intro l hl
        rcases List.mem_append.1 hl with hl | hl
        · exact hb l hl
        · rw [List.mem_singleton.1 hl]
          refine runB_low ?_ ((srtMb_iff _).2 (in_srtM (sortM_sorted _))) ?_
          · rw [mayA_perm (sortM_perm _), mayA_app, h5, mayA_one, hm]; rfl
          · rw [sortM_len, List.length_append, List.length_singleton]; omega
      · exact hb
  · rw [okL_no hp]
    intro l hl
    cases hl
set_option maxHeartbeats 1000000 in
set_option maxRecDepth 100000 in
theorem walk (vl0 vr0 : Value) (n0 : Int) (lo0 : List Ml) (rs0 : List (List Int)) (m1 : Ml) (w : World) (hN0 : i64B n0) (hR0 : QuR w vl0 vr0 lo0 rs0) (hB0 : QuB lo0 rs0) (hM1 : mlB m1) :
    Calls Try.prog 3 #[.agg #[.int .i64 n0, vl0, vr0], .agg #[.int .i64 m1.1, .int .i64 m1.2]] w fun e w' => e = .returned (.bool true) ∧ Below w.heap.size w w' := by
  have _u := hN0
  clear _u
  have _u := hR0
  clear _u
  have _u := hB0
  clear _u
  have _u := hM1
  clear _u
  have HR : Hid (QuR w vl0 vr0 lo0 rs0) := hR0
  have HBd : Hid (QuB lo0 rs0) := hB0
  have HBY : Hid (∀ l ∈ rs0, ∀ x ∈ l, 0 ≤ x ∧ x ≤ 255) := fun l hl => (hB0.2.1 l hl).1
  have HRY : Hid (∀ l ∈ okL (pushE lo0 m1 (quF n0 lo0 rs0)) (rnsF n0 lo0 rs0 m1), ∀ x ∈ l, 0 ≤ x ∧ x ≤ 255) := rns_low HBY.out
  have HPu : Hid (∀ xl xr X, QuR X xl xr lo0 rs0 → Calls Try.prog 10 #[.agg #[.int .i64 n0, xl, xr], .agg #[.int .i64 m1.1, .int .i64 m1.2]] X (PshP X n0 (looF n0 lo0 m1) (rnsF n0 lo0 rs0 m1) (pushE lo0 m1 (quF n0 lo0 rs0)))) := fun xl xr X hX => push_any n0 xl xr lo0 rs0 m1 X hX hB0
  have HPr : Hid (∀ xl xr X, QuR X xl xr lo0 rs0 → Calls Try.prog 11 #[.agg #[.int .i64 n0, xl, xr], .agg #[.int .i64 m1.1, .int .i64 m1.2]] X (PshP X n0 (looF n0 lo0 m1) (rnsF n0 lo0 rs0 m1) (pushE lo0 m1 (quF n0 lo0 rs0)))) := fun xl xr X hX => refPushed_any n0 xl xr lo0 rs0 m1 X hX hB0
  obtain ⟨a, cap, rfl⟩ := hR0.1.shape
  obtain ⟨c, cap2, rfl, _⟩ := id hR0.2
  clear hR0 hB0
  unfold PshP at HPu HPr
  generalize okL (pushE lo0 m1 (quF n0 lo0 rs0)) (rnsF n0 lo0 rs0 m1) = RR at *
  generalize okL (pushE lo0 m1 (quF n0 lo0 rs0)) (looF n0 lo0 m1) = LL at *
  generalize okN (pushE lo0 m1 (quF n0 lo0 rs0)) n0 = nn at *
  generalize pushE lo0 m1 (quF n0 lo0 rs0) = qq at *
  have hqq : (qq == qq) = true := by simp
  go_enter Try.func3, Try.ntmps3
  go_upto_region 1 with fail
  have Q0 : Hid (QX ((w.alloc (.cells #[.int .i64 n0, .slice a lo0.length cap, .slice c rs0.length cap2] 25)).alloc (.cells #[.int .i64 m1.1, .int .i64 m1.2] 27)) w.heap.size (.int .i64 n0) (.slice a lo0.length cap) (.slice c rs0.length cap2)) := (QX.new w _ _ _).below (below_alloc _ _) (by simp)
  have M0 : Hid (((w.alloc (.cells #[.int .i64 n0, .slice a lo0.length cap, .slice c rs0.length cap2] 25)).alloc (.cells #[.int .i64 m1.1, .int .i64 m1.2] 27)).heap[w.heap.size + 1]? = some (.cells #[.int .i64 m1.1, .int .i64 m1.2] 27 (0, 0))) := heap_second w _ _ _
  have B0 : Hid (Below w.heap.size w ((w.alloc (.cells #[.int .i64 n0, .slice a lo0.length cap, .slice c rs0.length cap2] 25)).alloc (.cells #[.int .i64 m1.1, .int .i64 m1.2] 27))) := (below_alloc _ _).alloc (by simp) _
  generalize (w.alloc (.cells #[.int .i64 n0, .slice a lo0.length cap, .slice c rs0.length cap2] 25)).alloc (.cells #[.int .i64 m1.1, .int .i64 m1.2] 27) = W0 at *
  have hm0 : w.heap.size + 1 < W0.heap.size := (Array.getElem?_eq_some_iff.1 M0.out).1
  have hs0 := B0.out.size
  obtain ⟨q0, q1, q2⟩ := Q0.out.cells
  go_wp2_with fail
  refine (queues_any n0 _ _ lo0 rs0 _ (HR.out.below B0.out (Nat.le_refl _)) HBd.out).mono ?_
  rintro e w1 ⟨xl, xr, rfl, hq1, hb1⟩
  obtain ⟨xa, xc, rfl⟩ := hq1.1.shape
  obtain ⟨ya, yc, rfl, _⟩ := id hq1.2
  have C1 : Hid (QX (w1.alloc (.cells #[.int .i64 n0, .slice xa lo0.length xc, .slice ya rs0.length yc] 25)) w1.heap.size (.int .i64 n0) (.slice xa lo0.length xc) (.slice ya rs0.length yc)) := QX.new _ _ _ _
  have R1 : Hid (QuR (w1.alloc (.cells #[.int .i64 n0, .slice xa lo0.length xc, .slice ya rs0.length yc] 25)) (.slice xa lo0.length xc) (.slice ya rs0.length yc) lo0 rs0) := hq1.below (below_alloc _ _) (Nat.le_refl _)
  have B1 : Hid (Below W0.heap.size W0 (w1.alloc (.cells #[.int .i64 n0, .slice xa lo0.length xc, .slice ya rs0.length yc] 25))) := hb1.alloc hb1.size _
  clear hq1 hb1 q0 q1 q2
  go_upto_region 2 with fail
  generalize w1.alloc (.cells #[.int .i64 n0, .slice xa lo0.length xc, .slice ya rs0.length yc] 25) = W1 at *
  generalize w1.heap.size = c1 at *
  have hs1 := B1.out.size
  have mb : W1.heap[w.heap.size + 1]? = some (.cells #[.int .i64 m1.1, .int .i64 m1.2] 27 (0, 0)) := (B1.out.block _ hm0).trans M0.out
  have mc0 : W1.cell? ⟨w.heap.size + 1, 0, none⟩ = some (.int .i64 m1.1) := boxQ_cells mb 0
  have mc1 : W1.cell? ⟨w.heap.size + 1, 1, none⟩ = some (.int .i64 m1.2) := boxQ_cells mb 1
  obtain ⟨x0, x1, x2⟩ := C1.out.cells
  clear mb
  go_wp2_with fail
  refine (HPu.out _ _ _ R1.out).mono ?_
  rintro e w2 ⟨al, ar, rfl, hal, har, hb2⟩
  have A2 : QuR w2 al ar LL RR := ⟨MlR.ownd hal, har.reads⟩
  obtain ⟨aa, ac, rfl⟩ := A2.1.shape
  obtain ⟨ba, bc, rfl, _⟩ := id A2.2
  have AB2 : Hid (QuR (w2.alloc (.cells #[.int .i64 nn, .slice aa LL.length ac, .slice ba RR.length bc] 25)) (.slice aa LL.length ac) (.slice ba RR.length bc) LL RR) := A2.below (below_alloc _ _) (Nat.le_refl _)
  have D2 : Hid (QX (w2.alloc (.cells #[.int .i64 nn, .slice aa LL.length ac, .slice ba RR.length bc] 25)) w2.heap.size (.int .i64 nn) (.slice aa LL.length ac) (.slice ba RR.length bc)) := QX.new _ _ _ _
  have B2 : Hid (Below W1.heap.size W1 (w2.alloc (.cells #[.int .i64 nn, .slice aa LL.length ac, .slice ba RR.length bc] 25))) := hb2.alloc hb2.size _
  clear A2 hal har hb2 mc0 mc1 x0 x1 x2
  go_upto_region 3 with fail
  generalize w2.alloc (.cells #[.int .i64 nn, .slice aa LL.length ac, .slice ba RR.length bc] 25) = W2 at *
  generalize w2.heap.size = d2 at *
  have hs2 := B2.out.size
  have mb : W2.heap[w.heap.size + 1]? = some (.cells #[.int .i64 m1.1, .int .i64 m1.2] 27 (0, 0)) := (B2.out.block _ (by omega)).trans ((B1.out.block _ hm0).trans M0.out)
  have mc0 : W2.cell? ⟨w.heap.size + 1, 0, none⟩ = some (.int .i64 m1.1) := boxQ_cells mb 0
  have mc1 : W2.cell? ⟨w.heap.size + 1, 1, none⟩ = some (.int .i64 m1.2) := boxQ_cells mb 1
  have BW2 : Hid (Below w.heap.size w W2) := (B0.out.trans (B1.out.mono (by omega))).trans (B2.out.mono (by omega))
  have Q2 : Hid (QX W2 w.heap.size (.int .i64 n0) (.slice a lo0.length cap) (.slice c rs0.length cap2)) := (Q0.out.below B1.out Q0.out.lt).below B2.out (by omega)
  have C2 : Hid (QX W2 c1 (.int .i64 n0) (.slice xa lo0.length xc) (.slice ya rs0.length yc)) := C1.out.below B2.out C1.out.lt
  have R2 : Hid (QuR W2 (.slice xa lo0.length xc) (.slice ya rs0.length yc) lo0 rs0) := R1.out.below B2.out (Nat.le_refl _)
  obtain ⟨q0, q1, q2⟩ := Q2.out.cells
  clear mb R1 C1 Q0
  go_wp2_with fail
  refine (HPr.out _ _ _ (HR.out.below BW2.out (Nat.le_refl _))).mono ?_
  rintro e w3 ⟨el, er, rfl, hel, her, hb3⟩
  have E3 : QuR w3 el er LL RR := ⟨MlR.ownd hel, her.reads⟩
  obtain ⟨ea, ec, rfl⟩ := E3.1.shape
  obtain ⟨fa, fc, rfl, _⟩ := id E3.2
  have EB3 : Hid (QuR (w3.alloc (.cells #[.int .i64 nn, .slice ea LL.length ec, .slice fa RR.length fc] 25)) (.slice ea LL.length ec) (.slice fa RR.length fc) LL RR) := E3.below (below_alloc _ _) (Nat.le_refl _)
  have F3 : Hid (QX (w3.alloc (.cells #[.int .i64 nn, .slice ea LL.length ec, .slice fa RR.length fc] 25)) w3.heap.size (.int .i64 nn) (.slice ea LL.length ec) (.slice fa RR.length fc)) := QX.new _ _ _ _
  have B3 : Hid (Below W2.heap.size W2 (w3.alloc (.cells #[.int .i64 nn, .slice ea LL.length ec, .slice fa RR.length fc] 25))) := hb3.alloc hb3.size _
  clear E3 hel her hb3 mc0 mc1 q0 q1 q2
  go_upto_region 4 with fail
  generalize w3.alloc (.cells #[.int .i64 nn, .slice ea LL.length ec, .slice fa RR.length fc] 25) = W3 at *
  generalize w3.heap.size = f3 at *
  have hs3 := B3.out.size
  have BW3 : Hid (Below w.heap.size w W3) := BW2.out.trans (B3.out.mono (by omega))
  have Q3 : Hid (QX W3 w.heap.size (.int .i64 n0) (.slice a lo0.length cap) (.slice c rs0.length cap2)) := Q2.out.below B3.out Q2.out.lt
  have C3 : Hid (QX W3 c1 (.int .i64 n0) (.slice xa lo0.length xc) (.slice ya rs0.length yc)) := C2.out.below B3.out C2.out.lt
  have D3 : Hid (QX W3 d2 (.int .i64 nn) (.slice aa LL.length ac) (.slice ba RR.length bc)) := D2.out.below B3.out D2.out.lt
  have R3 : Hid (QuR W3 (.slice xa lo0.length xc) (.slice ya rs0.length yc) lo0 rs0) := R2.out.below B3.out (Nat.le_refl _)
  have AB3 : Hid (QuR W3 (.slice aa LL.length ac) (.slice ba RR.length bc) LL RR) := AB2.out.below B3.out (Nat.le_refl _)
  obtain ⟨d0, d1, d9⟩ := D3.out.cells
  obtain ⟨f0, f1, f2⟩ := F3.out.cells
  clear Q2 C2 D2 R2 AB2
  go_wp2_with fail
  refine (sameQueue_yes nn _ _ _ _ LL RR _ AB3.out EB3.out HRY.out).mono ?_
  rintro e w4 ⟨rfl, hb4⟩
  have B4 : Hid (Below w.heap.size w w4) := BW3.out.trans (hb4.mono (by omega))
  have R4 : Hid (QuR w4 (.slice xa lo0.length xc) (.slice ya rs0.length yc) lo0 rs0) := R3.out.below hb4 (Nat.le_refl _)
  obtain ⟨q0, q1, q2⟩ := (Q3.out.below hb4 Q3.out.lt).cells
  obtain ⟨x0, x1, x2⟩ := (C3.out.below hb4 C3.out.lt).cells
  have hs4 := B4.out.size
  clear hb4 d0 d1 d9 f0 f1 f2
  go_wp2_with fail
  refine (sameQueue_yes n0 _ _ _ _ lo0 rs0 _ R4.out (HR.out.below B4.out (Nat.le_refl _)) HBY.out).mono ?_
  rintro e w5 ⟨rfl, hb5⟩
  have B5 : Hid (Below w.heap.size w w5) := B4.out.trans (hb5.mono hs4)
  clear hb5
  go_wp2_with fail
  go_ret
  exact ⟨ret_bool (by simp), B5.out⟩

set_option maxHeartbeats 400000 in
set_option maxRecDepth 100000 in
theorem lifted (os : Os) (started : os.Started) (H : Type) (enc : TypeId × Value → H) :
    ReturnsInHanded {} Try.checked os 3 .any (Rows.queuePushesSpec.pre6 enc Try.prog Try.f3 Rows.queuePushesRow.domain false) (Rows.queuePushesSpec.post enc Try.prog Try.f3 false true false false) := by
  refine returnsInHanded_of_change_sized (C := Try.checked) own started (by kernel_rfl) Try.func3
    (ChangeSpec.witness6 (enc := enc) (C := Try.checked) false ⟨#[], #[.agg #[.int .i64 0, .slice none 0 0, .slice none 0 0], .agg #[.int .i64 0, .int .i64 0]], []⟩ 8 (by kernel_rfl) (by kernel_rfl) (by kernel_rfl) (by kernel_rfl)) ?_
  intro W base args ds gs before hval0 hW _ hsz0 _
  have hval : ∀ (j : Nat) t v, Try.f3.params[j]? = some t → args[j]? = some v → Value.okWide Try.prog W .any base t v := hval0
  have hW' := hW
  obtain ⟨p, q, hA0, hV, rfl, hfz, hnd⟩ := hW
  have hA : DataW.TrodAll enc Try.prog W 0 (fun _ => true) true Try.f3.params.toList args.toList ds p := hA0
  have hsz : (DataW.weightsEach Try.prog (Try.f3.params.toList ++ Rows.queuePushesSpec.plain.varTypes Try.prog) (ds ++ gs)).all (fun x => decide (x ≤ reachBytes)) = true := hsz0
  rw [Try.params3] at hA hval hsz
  obtain ⟨v0, vs0, d0, ds0, p0, q0, hargs, rfl, rfl, h0, r0⟩ := trodAll_cons hA
  obtain ⟨v1, vs1, d1, ds1, p1, q1, rfl, rfl, rfl, h1, r1⟩ := trodAll_cons r0
  obtain ⟨rfl, rfl, rfl⟩ := trodAll_nil r1
  obtain rfl : args = #[v0, v1] := by cases args; simp_all
  obtain ⟨rfl, rfl⟩ := trodVars_none hV
  have k0 := h0
  have lt0 : ∀ x ∈ p0, x.block < W.heap.size := by obtain ⟨m, hm⟩ := k0; exact DataW.trod_lt m _ _ _ hm
  have hw0 : ∀ m ∈ d0.weights Try.prog 25, m ≤ reachBytes := fun m hm => by simpa using List.all_eq_true.1 hsz _ (DataW.weights_mem_each (j := 0) (t := 25) rfl rfl m hm)
  have k1 := h1
  have lt1 : ∀ x ∈ p1, x.block < W.heap.size := by obtain ⟨m, hm⟩ := k1; exact DataW.trod_lt m _ _ _ hm
  obtain ⟨n0, vl0, vr0, lo0, rs0, rfl, hN0, hR0, hB0⟩ := open_queue (okWide_struct Try.underlying25 (hval 0 25 v0 rfl rfl)) h0 hw0
  obtain ⟨m1, rfl, hM1⟩ := open_mail (okWide_struct Try.underlying27 (hval 1 27 v1 rfl rfl)) h1
  clear hA0 hval0
  refine (walk vl0 vr0 n0 lo0 rs0 m1 W hN0 hR0 hB0 hM1).mono fun e W' ⟨he, bel⟩ => ?_
  subst he
  exact ⟨_, rfl, _, _, _, [], _, [], hW', trodAll_mk1 (shut_bool Try.underlying4 _), (trodAll_cons_mk (Below.trod laidOut (by kernel_rfl) (of_decide_eq_true (by kernel_rfl)) k0 bel lt0) (trodAll_cons_mk (Below.trod laidOut (by kernel_rfl) (of_decide_eq_true (by kernel_rfl)) k1 bel lt1) trodAll_mk0)), rfl, bel.frame _, fun h => by cases h⟩

theorem over : Rows.queuePushesRow.holds Try.pinned (OpenSpec.ofChange Rows.queuePushesSpec) :=
  OpenClaim.holds_of_wide 3 Try.f3 rfl rfl rfl rfl rfl rfl rfl ⟨rfl, rfl, rfl, rfl, rfl⟩ rfl rfl rfl rfl rfl (by kernel_rfl) Try.func3 (by kernel_rfl)
    (of_decide_eq_true (by kernel_rfl)) (by unfold Func.isWrapper; first | (rw [if_pos (by decide +kernel)]; kernel_rfl) | (rw [if_neg (by decide +kernel)]; exact ⟨rfl, rfl⟩))
    (fun os started H enc _ => lifted os started H enc)

/-- The statement. -/
theorem proved : Rows.QueuePushesSaid := over
#print axioms proved
end Go.Proofs.Ytihghhmhgakkaaa.queuePushes
