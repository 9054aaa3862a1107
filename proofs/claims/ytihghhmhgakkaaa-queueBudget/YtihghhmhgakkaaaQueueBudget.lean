/-
  For all numbers and every list of raw numbers: what is drained does not hang on the budget, nor on the order in which it came (the law QueueBudget returns true, and its arguments read as before); no condition.
-/
import Derived.Test.YtihghhmhgakkaaaKeepMail
import Derived.Test.YtihghhmhgakkaaaKeepSame
import Derived.Test.YtihghhmhgakkaaaQueueBudgetPartC
import Derived.WalkKit
import Derived.ProofKit
import Derived.OpenShut
import Derived.ShutString
import Derived.SizedLaws
import Derived.ChangeOld
import Derived.Below
namespace Go.Proofs.Ytihghhmhgakkaaa.queueBudget
set_option maxRecDepth 100000
open Go.ChangeShapes Go.WideShapes Go.ChangeAt Go.RowKit

theorem own : ownKnob Try.prog.godebug = none := by kernel_rfl
theorem laidOut : laidOutB Try.prog = true := by kernel_rfl
theorem post_may (es : List Ml) : mayA (postL es) = true := by
  refine mayA_iff.2 fun m hm => ?_
  unfold postL at hm
  obtain ⟨x, _, rfl⟩ := List.mem_map.1 hm
  have h1 := pickF_bd x.1 6 (by decide)
  have h2 := pickF_bd x.2 1000 (by decide)
  refine mayM_iff.2 ?_
  show 0 ≤ pickF x.1 6 ∧ pickF x.1 6 < 200 ∧ 0 ≤ pickF x.2 1000 ∧ pickF x.2 1000 ≤ 4398046511104
  omega
set_option maxHeartbeats 40000000 in
set_option maxRecDepth 100000 in
theorem walk (n0 : Int) (n1 : Int) (v2 : Value) (es2 : List Ml) (n3 : Int) (w : World) (hI0 : -9223372036854775808 ≤ n0 ∧ n0 ≤ 9223372036854775807) (hI1 : -9223372036854775808 ≤ n1 ∧ n1 ≤ 9223372036854775807) (hR2 : MlR w v2 es2) (hB2 : ∀ x ∈ es2, mlB x) (hL2 : es2.length * 16 ≤ 140737488351232) (hI3 : -9223372036854775808 ≤ n3 ∧ n3 ≤ 9223372036854775807) :
    Calls Try.prog 7 #[.int .i64 n0, .int .i64 n1, v2, .int .i64 n3] w fun e w' => e = .returned (.bool true) ∧ Below w.heap.size w w' := by
  have _u := hI0
  clear _u
  have _u := hI1
  clear _u
  have _u := hR2
  clear _u
  have _u := hB2
  clear _u
  have _u := hL2
  clear _u
  have _u := hI3
  clear _u
  have HR : Hid (MlR w v2 es2) := hR2
  have HPB : Hid (∀ x ∈ es2, mlB x) := hB2
  have hp0 := pickF_bd n0 6 (by decide)
  have hp1 := pickF_bd n1 50 (by decide)
  obtain ⟨B1, hB1, hA1, hA2⟩ : ∃ B : Nat, IntKind.i64.wrap (1 + pickF n0 6) = (B : Int) ∧ 1 ≤ B ∧ B ≤ 6 := ⟨(1 + pickF n0 6).toNat, by rw [IntKind.wrap_i64]; omega, by omega, by omega⟩
  obtain ⟨B2, hB2', hC1, hC2⟩ : ∃ B : Nat, IntKind.i64.wrap (1 + pickF n1 50) = (B : Int) ∧ 1 ≤ B ∧ B ≤ 50 := ⟨(1 + pickF n1 50).toNat, by rw [IntKind.wrap_i64]; omega, by omega, by omega⟩
  have HPX : Hid (∀ X, Calls Try.prog 18 #[.int .i64 n0, .int .i64 6] X fun e w' => e = .returned (.int .i64 (pickF n0 6)) ∧ X = w') := fun X => (picked_any n0 6 X hI0.1 hI0.2 (by omega) (by omega)).mono fun _ _ h => ⟨h.1, h.2.symm⟩
  have HPY : Hid (∀ X, Calls Try.prog 18 #[.int .i64 n1, .int .i64 50] X fun e w' => e = .returned (.int .i64 (pickF n1 50)) ∧ w' = X) := fun X => picked_any n1 50 X hI1.1 hI1.2 (by omega) (by omega)
  have hl40 := postL_len es2
  obtain ⟨L1, hL1, hL2, hL3⟩ : ∃ L1 : Nat, IntKind.i64.wrap (((postL es2).length : Int) + 1) = (L1 : Int) ∧ L1 ≤ (postL es2).length + 1 ∧ 1 ≤ L1 := ⟨(postL es2).length + 1, by rw [IntKind.wrap_i64]; omega, by omega, by omega⟩
  have hp3 := pickF_bd n3 (L1 : Int) (by omega)
  obtain ⟨k, hk1, hk2⟩ : ∃ k : Nat, pickF n3 (L1 : Int) = (k : Int) ∧ k ≤ (postL es2).length := ⟨(pickF n3 (L1 : Int)).toNat, by omega, by omega⟩
  have HPT : Hid (∀ X, Calls Try.prog 18 #[.int .i64 n3, .int .i64 (L1 : Int)] X fun e w' => e = .returned (.int .i64 (k : Int)) ∧ X = w') := fun X => by rw [← hk1]; exact (picked_any n3 (L1 : Int) X hI3.1 hI3.2 (by omega) (by omega)).mono fun _ _ h => ⟨h.1, h.2.symm⟩
  obtain ⟨a, cap, rfl⟩ := hR2.shape
  clear hR2 hB2 hp0 hp1 hp3 hk1
  generalize pickF n0 6 = pk0 at *
  generalize pickF n1 50 = pk1 at *
  go_enter Try.func7, Try.ntmps7
  go_wp2_with fail
  refine (posts_any _ es2 _ HR.out HPB.out).mono ?_
  rintro e w1 ⟨c, rfl, ho1, hb1⟩
  have C1 : Hid (MlR w1 c (postL es2)) := MlR.ownd ho1
  have BQ1 : Hid (Below w.heap.size w w1) := hb1
  have HMY : Hid (mayA (postL es2) = true) := post_may es2
  obtain ⟨ca, cc, rfl⟩ := C1.out.shape
  have hs1 := hb1.size
  clear ho1 hb1
  generalize postL es2 = l at *
  go_wp2_with fail
  refine (HPT.out _).mono ?_
  rintro e w2 ⟨rfl, rfl⟩
  go_wp2_with fail
  refine (HPX.out _).mono ?_
  rintro e w2 ⟨rfl, rfl⟩
  go_wp2_with fail
  refine (filled_gets B1 _ l _ C1.out HMY.out hA1 (by omega) hl40).mono ?_
  rintro e w2 ⟨u, rfl, lo, rs, f, xa1, xc1, ya1, yc1, most, rfl, hf, hq, hb2⟩
  have HFa : Hid (Fil B1 l lo rs f) := hf
  have XA : Hid (QX (w2.alloc (.cells #[.int .i64 (B1 : Int), .slice xa1 lo.length xc1, .slice ya1 rs.length yc1] 25)) w2.heap.size (.int .i64 (B1 : Int)) (.slice xa1 lo.length xc1) (.slice ya1 rs.length yc1)) := QX.new _ _ _ _
  have RA : Hid (QuR (w2.alloc (.cells #[.int .i64 (B1 : Int), .slice xa1 lo.length xc1, .slice ya1 rs.length yc1] 25)) (.slice xa1 lo.length xc1) (.slice ya1 rs.length yc1) lo rs) := QuR.below ⟨MlR.ownd hq.1, hq.2.reads⟩ (below_alloc _ _) (Nat.le_refl _)
  have BA0 : Hid (Below w.heap.size w (w2.alloc (.cells #[.int .i64 (B1 : Int), .slice xa1 lo.length xc1, .slice ya1 rs.length yc1] 25))) := (BQ1.out.trans (hb2.mono hs1)).alloc (Nat.le_trans hs1 hb2.size) _
  have CA : Hid (MlR (w2.alloc (.cells #[.int .i64 (B1 : Int), .slice xa1 lo.length xc1, .slice ya1 rs.length yc1] 25)) (.slice ca l.length cc) l) := (C1.out.below hb2 (Nat.le_refl _)).below (below_alloc _ _) (Nat.le_refl _)
  clear hf hq hb2 C1 BQ1
  go_upto_region 4 with fail
  generalize w2.alloc (.cells #[.int .i64 (B1 : Int), .slice xa1 lo.length xc1, .slice ya1 rs.length yc1] 25) = W1 at *
  generalize w2.heap.size = na at *
  have hccc : l.length ≤ cc ∧ cc ≤ maxLen := by
    obtain ⟨_, _, e1, h1, h2, _⟩ := CA.out
    injection e1 with e1 e2 e3
    rw [e3]
    exact ⟨h1, h2⟩
  have HMU : Hid (mayA (l.drop k ++ l.take k) = true) := by
    show _ = true
    rw [mayA_perm (List.perm_append_comm.trans (List.Perm.of_eq (List.take_append_drop k l)))]
    exact HMY.out
  have HPU : Hid ((l.drop k ++ l.take k).Perm l) := List.perm_append_comm.trans (List.Perm.of_eq (List.take_append_drop k l))
  have hcF := run_cutF ca l.length cc k hk2
  have hcH := run_cutH ca l.length cc k (by omega)
  have RD : Hid (∀ V, Below W1.heap.size W1 V → MlR V (cutP ca k l.length cc) (l.drop k)) := fun V hV => by
    have h := reads_cutP (lo := k) (hi := l.length) (m := cc) (CA.out.below hV (Nat.le_refl _)) hk2 (Nat.le_refl _) hccc.1 (Nat.le_refl _)
    rwa [List.take_of_length_le (by rw [List.length_drop]; exact Nat.le_refl _)] at h
  have RU : Hid (∀ V, Below W1.heap.size W1 V → MlR V (cutP ca 0 k k) (l.take k)) := fun V hV => by
    have h := reads_cutP (lo := 0) (hi := k) (m := k) (CA.out.below hV (Nat.le_refl _)) (Nat.zero_le _) hk2 (Nat.le_refl _) (by omega)
    rwa [List.drop_zero, Nat.sub_zero] at h
  have epk : ∀ args w, (callFunc 18 args).run Try.prog w = .ok (.enter 18 args) w := enters_of Try.func18 (by kernel_rfl) rfl
  have efi : ∀ args w, (callFunc 20 args).run Try.prog w = .ok (.enter 20 args) w := enters_of Try.func20 (by kernel_rfl) rfl
  have B0 : Below W1.heap.size W1 W1.drew := (Below.refl _ _).drew
  apply Hid.cut
  case h =>
    intro HG
    refine region_lastF (S := fun _ => True) (by kernel_rfl) rfl (by kernel_rfl) (by kernel_rfl) ?_
    simp only [List.pop_toArray, List.dropLast_cons_cons, List.dropLast_singleton, List.size_toArray, List.length_cons, List.length_nil, Nat.reduceAdd]
    refine takeH (i := 0) (v := .int .i64 n1) (d := 38) rfl rfl (by kernel_rfl) (by kernel_rfl) (by kernel_rfl) (fun _ _ _ h => h) (by rfl) (fun _ _ => by go_simp) trivial ?_
    simp only [Act.put, List.setIfInBounds_toArray, List.set_cons_zero, List.set_cons_succ]
    refine takeH (i := 3) (v := .slice ca l.length cc) (d := 41) rfl rfl (by kernel_rfl) (by kernel_rfl) (by kernel_rfl) (fun _ _ _ h => h) (by rfl) (fun _ _ => by go_simp) trivial ?_
    simp only [Act.put, List.setIfInBounds_toArray, List.set_cons_zero, List.set_cons_succ]
    refine takeH (i := 4) (v := .int .i64 (k : Int)) (d := 42) rfl rfl (by kernel_rfl) (by kernel_rfl) (by kernel_rfl) (fun _ _ _ h => h) (by rfl) (fun _ _ => by go_simp) trivial ?_
    simp only [Act.put, List.setIfInBounds_toArray, List.set_cons_zero, List.set_cons_succ]
    refine takeH (i := 5) (v := (cutP ca k l.length cc)) (d := 43) rfl rfl (by kernel_rfl) (by kernel_rfl) (by kernel_rfl) (fun _ _ _ h => h) (by rfl) (fun _ _ => by go_simp) trivial ?_
    simp only [Act.put, List.setIfInBounds_toArray, List.set_cons_zero, List.set_cons_succ]
    refine takeH (i := 7) (v := .slice ca l.length cc) (d := 45) rfl rfl (by kernel_rfl) (by kernel_rfl) (by kernel_rfl) (fun _ _ _ h => h) (by rfl) (fun _ _ => by go_simp) trivial ?_
    simp only [Act.put, List.setIfInBounds_toArray, List.set_cons_zero, List.set_cons_succ]
    refine takeH (i := 8) (v := .int .i64 (k : Int)) (d := 46) rfl rfl (by kernel_rfl) (by kernel_rfl) (by kernel_rfl) (fun _ _ _ h => h) (by rfl) (fun _ _ => by go_simp) trivial ?_
    simp only [Act.put, List.setIfInBounds_toArray, List.set_cons_zero, List.set_cons_succ]
    refine takeH (i := 9) (v := .int .i64 (k : Int)) (d := 47) rfl rfl (by kernel_rfl) (by kernel_rfl) (by kernel_rfl) (fun _ _ _ h => h) (by rfl) (fun _ _ => by go_simp) trivial ?_
    simp only [Act.put, List.setIfInBounds_toArray, List.set_cons_zero, List.set_cons_succ]
    refine takeH (i := 10) (v := (cutP ca 0 k k)) (d := 48) rfl rfl (by kernel_rfl) (by kernel_rfl) (by kernel_rfl) (fun _ _ _ h => h) (by rfl) (fun _ _ => by go_simp) trivial ?_
    simp only [Act.put, List.setIfInBounds_toArray, List.set_cons_zero, List.set_cons_succ]
    have BN1 : Below W1.heap.size W1 (W1.drew.alloc (.cells #[.int .i64 0, .slice none 0 0, .slice none 0 0] 25)) := (B0).alloc (B0).size _
    have NN1 : QX (W1.drew.alloc (.cells #[.int .i64 0, .slice none 0 0, .slice none 0 0] 25)) W1.heap.size (.int .i64 0) (.slice none 0 0) (.slice none 0 0) := QX.new _ _ _ _
    have NG1 : W1.heap.size ≤ W1.heap.size := (B0).size
    refine twoH (i := 1) (j := 17) rfl rfl (by kernel_rfl) rfl rfl ?_ ?_
    · refine call_same (d := 39) (f := 18) (xs := #[.tmp 38, .const (.int .i64 50)]) (ats := #[3, 3]) rfl rfl epk (vs := #[.int .i64 n1, .int .i64 50]) (by simp [Act.eval]) (HPY.out _) ⟨trivial, ?_⟩
      simp only [Act.put, List.setIfInBounds_toArray, List.set_cons_zero, List.set_cons_succ]
      refine takeH (i := 2) (v := .int .i64 (B2 : Int)) (d := 40) rfl rfl (by kernel_rfl) (by kernel_rfl) (by kernel_rfl) (fun _ _ _ h => h) (by rfl) (fun _ _ => by go_simp) trivial ?_
      simp only [Act.put, List.setIfInBounds_toArray, List.set_cons_zero, List.set_cons_succ]
      obtain ⟨va2, wa2, hr2, ho2, hg2⟩ := run_append_rowK kM (w := W1.drew) 22 W1.heap.size (.slice none 0 0) ([] : List Ml) (World.ownsRow_nil _ _ _ _) (cutP ca k l.length cc) (l.drop k) (RD.out _ B0) (by simp [kM]; omega) (by unfold maxLen; simp; omega) (B0).size
      have OA2 : wa2.ownsRow W1.heap.size 27 2 va2 (l.drop k).length ((l.drop k).flatMap encM) := by have h := ho2; simpa [kM] using h
      have BA2 : Below W1.heap.size W1 wa2 := (B0).grown hg2 (B0).size (fun q hq => by cases hq)
      have BN2 : Below W1.heap.size W1 (W1.drew.alloc (.cells #[.int .i64 0, .slice none 0 0, .slice none 0 0] 25)) := (B0).alloc (B0).size _
      have NN2 : QX (W1.drew.alloc (.cells #[.int .i64 0, .slice none 0 0, .slice none 0 0] 25)) W1.heap.size (.int .i64 0) (.slice none 0 0) (.slice none 0 0) := QX.new _ _ _ _
      have NG2 : W1.heap.size ≤ W1.heap.size := (B0).size
      refine twoH (i := 6) (j := 17) rfl rfl (by kernel_rfl) rfl rfl ?_ ?_
      · refine call_append (d := 44) (s := .const (.slice none 0 0)) (x := .tmp 43) (t := 22) rfl rfl (v := .slice none 0 0) (v2 := (cutP ca k l.length cc)) (by simp [Act.eval]) (by simp [Act.eval]) hr2 ⟨trivial, ?_⟩
        simp only [Act.put, List.setIfInBounds_toArray, List.set_cons_zero, List.set_cons_succ]
        obtain ⟨vb3, wb3, hr3, ho3, hg3⟩ := run_append_rowK kM (w := wa2) 22 W1.heap.size va2 (l.drop k) OA2 (cutP ca 0 k k) (l.take k) (RU.out _ BA2) (by simp [kM]; omega) (by unfold maxLen; simp; omega) (BA2).size
        have OB3 : wb3.ownsRow W1.heap.size 27 2 vb3 (l.drop k ++ l.take k).length ((l.drop k ++ l.take k).flatMap encM) := ho3
        have BB3 : Below W1.heap.size W1 wb3 := (BA2).grown hg3 (BA2).size (fun q hq => (own_geM OA2 hq).1)
        have BN3 : Below W1.heap.size W1 (wa2.alloc (.cells #[.int .i64 0, .slice none 0 0, .slice none 0 0] 25)) := (BA2).alloc (BA2).size _
        have NN3 : QX (wa2.alloc (.cells #[.int .i64 0, .slice none 0 0, .slice none 0 0] 25)) wa2.heap.size (.int .i64 0) (.slice none 0 0) (.slice none 0 0) := QX.new _ _ _ _
        have NG3 : W1.heap.size ≤ wa2.heap.size := (BA2).size
        have ON3 : (wa2.alloc (.cells #[.int .i64 0, .slice none 0 0, .slice none 0 0] 25)).ownsRow W1.heap.size 27 2 va2 (l.drop k).length ((l.drop k).flatMap encM) := (OA2).alloc _
        refine twoH (i := 11) (j := 17) rfl rfl (by kernel_rfl) rfl rfl ?_ ?_
        · refine call_append (d := 49) (s := .tmp 44) (x := .tmp 48) (t := 22) rfl rfl (v := va2) (v2 := (cutP ca 0 k k)) (by simp [Act.eval]) (by simp [Act.eval]) hr3 ⟨trivial, ?_⟩
          simp only [Act.put, List.setIfInBounds_toArray, List.set_cons_zero, List.set_cons_succ]
          have BN4 : Below W1.heap.size W1 (wb3.alloc (.cells #[.int .i64 0, .slice none 0 0, .slice none 0 0] 25)) := (BB3).alloc (BB3).size _
          have NN4 : QX (wb3.alloc (.cells #[.int .i64 0, .slice none 0 0, .slice none 0 0] 25)) wb3.heap.size (.int .i64 0) (.slice none 0 0) (.slice none 0 0) := QX.new _ _ _ _
          have NG4 : W1.heap.size ≤ wb3.heap.size := (BB3).size
          have ON4 : (wb3.alloc (.cells #[.int .i64 0, .slice none 0 0, .slice none 0 0] 25)).ownsRow W1.heap.size 27 2 vb3 (l.drop k ++ l.take k).length ((l.drop k ++ l.take k).flatMap encM) := (OB3).alloc _
          refine twoH (i := 12) (j := 17) rfl rfl (by kernel_rfl) rfl rfl ?_ ?_
          · refine call_gets (d := 50) (f := 20) (xs := #[.tmp 40, .tmp 49]) (ats := #[3, 22]) rfl rfl efi (vs := #[.int .i64 (B2 : Int), vb3]) (by simp [Act.eval]) (filled_gets B2 _ (l.drop k ++ l.take k) _ (MlR.ownd OB3) HMU.out hC1 (by omega) (by simp; omega)) ?_
            intro u4 wf4 h4
            obtain ⟨lo2, rs2, f2, xa, xc, ya, yc, most2, rfl, hf2, hq2, hb2⟩ := h4
            have BF : Below W1.heap.size W1 wf4 := (BB3).trans (hb2.mono (BB3).size)
            have QL : wf4.ownsRow W1.heap.size 27 2 (.slice xa lo2.length xc) lo2.length (lo2.flatMap encM) ∧ OwnBs wf4 W1.heap.size (.slice ya rs2.length yc) rs2 := ⟨own_lower hq2.1 (BB3).size, hq2.2.lower (BB3).size⟩
            refine ⟨trivial, ?_⟩
            simp only [Act.put, List.setIfInBounds_toArray, List.set_cons_zero, List.set_cons_succ]
            refine takeH (i := 13) (v := .tuple #[.agg #[.int .i64 (B2 : Int), .slice xa lo2.length xc, .slice ya rs2.length yc], .int .i64 most2, .bool true]) (d := 37) rfl rfl (by kernel_rfl) (by kernel_rfl) (by kernel_rfl) (fun _ _ _ h => h) (by rfl) (fun _ _ => by go_simp) trivial ?_
            simp only [Act.put, List.setIfInBounds_toArray, List.set_cons_zero, List.set_cons_succ]
            refine takeH (i := 14) (v := .agg #[.int .i64 (B2 : Int), .slice xa lo2.length xc, .slice ya rs2.length yc]) (d := 51) rfl rfl (by kernel_rfl) (by kernel_rfl) (by kernel_rfl) (fun _ _ _ h => h) (by rfl) (fun _ _ => by go_simp) trivial ?_
            simp only [Act.put, List.setIfInBounds_toArray, List.set_cons_zero, List.set_cons_succ]
            refine takeH (i := 15) (v := .int .i64 most2) (d := 52) rfl rfl (by kernel_rfl) (by kernel_rfl) (by kernel_rfl) (fun _ _ _ h => h) (by rfl) (fun _ _ => by go_simp) trivial ?_
            simp only [Act.put, List.setIfInBounds_toArray, List.set_cons_zero, List.set_cons_succ]
            refine takeH (i := 16) (v := .bool true) (d := 53) rfl rfl (by kernel_rfl) (by kernel_rfl) (by kernel_rfl) (fun _ _ _ h => h) (by rfl) (fun _ _ => by go_simp) trivial ?_
            simp only [Act.put, List.setIfInBounds_toArray, List.set_cons_zero, List.set_cons_succ]
            refine oneH (i := 17) rfl (by kernel_rfl) rfl (op_run (d := 14) (v' := .pointer (some ⟨wf4.heap.size, 0, none⟩)) (w' := (wf4.alloc (.cells #[.int .i64 0, .slice none 0 0, .slice none 0 0] 25))) rfl (by go_simp) ⟨trivial, ?_⟩)
            simp only [Act.put, List.setIfInBounds_toArray, List.set_cons_zero, List.set_cons_succ]
            have NF : QX (wf4.alloc (.cells #[.int .i64 0, .slice none 0 0, .slice none 0 0] 25)) wf4.heap.size (.int .i64 0) (.slice none 0 0) (.slice none 0 0) := QX.new _ _ _ _
            have BG : Below W1.heap.size W1 (wf4.alloc (.cells #[.int .i64 0, .slice none 0 0, .slice none 0 0] 25)) := BF.alloc BF.size _
            have LF : W1.heap.size ≤ wf4.heap.size := BF.size
            have QG : (wf4.alloc (.cells #[.int .i64 0, .slice none 0 0, .slice none 0 0] 25)).ownsRow W1.heap.size 27 2 (.slice xa lo2.length xc) lo2.length (lo2.flatMap encM) ∧ OwnBs (wf4.alloc (.cells #[.int .i64 0, .slice none 0 0, .slice none 0 0] 25)) W1.heap.size (.slice ya rs2.length yc) rs2 := ⟨QL.1.alloc _, QL.2.kept (Kept.of (S := fun _ => False) (below_alloc _ _)) (fun _ _ h => h)⟩
            obtain ⟨z0, z1, z2, z3, z4, z5⟩ := NF.all
            refine oneH (i := 18) rfl (by kernel_rfl) rfl (op_skip (w' := (putQ (wf4.alloc (.cells #[.int .i64 0, .slice none 0 0, .slice none 0 0] 25)) wf4.heap.size (.int .i64 (B2 : Int)) (.slice xa lo2.length xc) (.slice ya rs2.length yc))) rfl (by unfold putQ; go_simp) ⟨trivial, ?_⟩)
            try simp only [Act.put, List.setIfInBounds_toArray, List.set_cons_zero, List.set_cons_succ]
            refine takeH (i := 19) (v := .int .i64 most2) (d := 15) rfl rfl (by kernel_rfl) (by kernel_rfl) (by kernel_rfl) (fun _ _ _ h => h) (by rfl) (fun _ _ => by go_simp) trivial ?_
            simp only [Act.put, List.setIfInBounds_toArray, List.set_cons_zero, List.set_cons_succ]
            refine wpAnyH_done (by kernel_rfl) ?_ _
            have FX : Hid (QX (putQ (wf4.alloc (.cells #[.int .i64 0, .slice none 0 0, .slice none 0 0] 25)) wf4.heap.size (.int .i64 (B2 : Int)) (.slice xa lo2.length xc) (.slice ya rs2.length yc)) wf4.heap.size (.int .i64 (B2 : Int)) (.slice xa lo2.length xc) (.slice ya rs2.length yc)) := NF.put _ _ _
            have FB : Hid (Below W1.heap.size W1 (putQ (wf4.alloc (.cells #[.int .i64 0, .slice none 0 0, .slice none 0 0] 25)) wf4.heap.size (.int .i64 (B2 : Int)) (.slice xa lo2.length xc) (.slice ya rs2.length yc))) := below_putQ BG LF _ _ _
            have FQ : Hid (QuR (putQ (wf4.alloc (.cells #[.int .i64 0, .slice none 0 0, .slice none 0 0] 25)) wf4.heap.size (.int .i64 (B2 : Int)) (.slice xa lo2.length xc) (.slice ya rs2.length yc)) (.slice xa lo2.length xc) (.slice ya rs2.length yc) lo2 rs2) := ⟨MlR.ownd (NF.ownPut QG.1 (by decide)), (OwnBs.putQ NF QG.2).reads⟩
            have FF : Hid (Fil B2 (l.drop k ++ l.take k) lo2 rs2 f2) := hf2
            show Oper.wp _ _ _ _ _ _
            refine op_run (d := 16) (v' := .bool true) (w' := (putQ (wf4.alloc (.cells #[.int .i64 0, .slice none 0 0, .slice none 0 0] 25)) wf4.heap.size (.int .i64 (B2 : Int)) (.slice xa lo2.length xc) (.slice ya rs2.length yc))) rfl (by go_simp) ?_
            clear BN1 NN1 NG1 hr2 ho2 hg2 OA2 BA2 BN2 NN2 NG2 hr3 ho3 hg3 OB3 BB3 BN3 NN3 NG3 ON3 BN4 NN4 NG4 ON4 hf2 hq2 hb2 BF QL NF LF BG QG z0 z1 z2 z3 z4 z5
            generalize (putQ (wf4.alloc (.cells #[.int .i64 0, .slice none 0 0, .slice none 0 0] 25)) wf4.heap.size (.int .i64 (B2 : Int)) (.slice xa lo2.length xc) (.slice ya rs2.length yc)) = X at FX FB FQ ⊢
            generalize wf4.heap.size = nx at FX ⊢
            revert FF
            revert FQ
            revert FB
            revert FX
            revert X
            revert nx
            revert most2
            revert yc
            revert ya
            revert xc
            revert xa
            revert f2
            revert rs2
            revert lo2
            revert vb3
            revert va2
            exact HG.out
          · refine op_run (d := 14) (v' := .pointer (some ⟨wb3.heap.size, 0, none⟩)) (w' := (wb3.alloc (.cells #[.int .i64 0, .slice none 0 0, .slice none 0 0] 25))) rfl (by go_simp) ⟨trivial, ?_⟩
            simp only [Act.put, List.setIfInBounds_toArray, List.set_cons_zero, List.set_cons_succ]
            refine oneH (i := 12) rfl (by kernel_rfl) rfl (call_gets (d := 50) (f := 20) (xs := #[.tmp 40, .tmp 49]) (ats := #[3, 22]) rfl rfl efi (vs := #[.int .i64 (B2 : Int), vb3]) (by simp [Act.eval]) (filled_gets B2 _ (l.drop k ++ l.take k) _ (MlR.ownd ON4) HMU.out hC1 (by omega) (by simp; omega)) ?_)
            intro u5 wf5 h5
            obtain ⟨lo2, rs2, f2, xa, xc, ya, yc, most2, rfl, hf2, hq2, hb2⟩ := h5
            have BF : Below W1.heap.size W1 wf5 := (BN4).trans (hb2.mono (BN4).size)
            have QL : wf5.ownsRow W1.heap.size 27 2 (.slice xa lo2.length xc) lo2.length (lo2.flatMap encM) ∧ OwnBs wf5 W1.heap.size (.slice ya rs2.length yc) rs2 := ⟨own_lower hq2.1 (BN4).size, hq2.2.lower (BN4).size⟩
            refine ⟨trivial, ?_⟩
            simp only [Act.put, List.setIfInBounds_toArray, List.set_cons_zero, List.set_cons_succ]
            refine takeH (i := 13) (v := .tuple #[.agg #[.int .i64 (B2 : Int), .slice xa lo2.length xc, .slice ya rs2.length yc], .int .i64 most2, .bool true]) (d := 37) rfl rfl (by kernel_rfl) (by kernel_rfl) (by kernel_rfl) (fun _ _ _ h => h) (by rfl) (fun _ _ => by go_simp) trivial ?_
            simp only [Act.put, List.setIfInBounds_toArray, List.set_cons_zero, List.set_cons_succ]
            refine takeH (i := 14) (v := .agg #[.int .i64 (B2 : Int), .slice xa lo2.length xc, .slice ya rs2.length yc]) (d := 51) rfl rfl (by kernel_rfl) (by kernel_rfl) (by kernel_rfl) (fun _ _ _ h => h) (by rfl) (fun _ _ => by go_simp) trivial ?_
            simp only [Act.put, List.setIfInBounds_toArray, List.set_cons_zero, List.set_cons_succ]
            refine takeH (i := 15) (v := .int .i64 most2) (d := 52) rfl rfl (by kernel_rfl) (by kernel_rfl) (by kernel_rfl) (fun _ _ _ h => h) (by rfl) (fun _ _ => by go_simp) trivial ?_
            simp only [Act.put, List.setIfInBounds_toArray, List.set_cons_zero, List.set_cons_succ]
            refine takeH (i := 16) (v := .bool true) (d := 53) rfl rfl (by kernel_rfl) (by kernel_rfl) (by kernel_rfl) (fun _ _ _ h => h) (by rfl) (fun _ _ => by go_simp) trivial ?_
            simp only [Act.put, List.setIfInBounds_toArray, List.set_cons_zero, List.set_cons_succ]
            have NF : QX wf5 wb3.heap.size (.int .i64 0) (.slice none 0 0) (.slice none 0 0) := NN4.below hb2 NN4.lt
            have LF : W1.heap.size ≤ wb3.heap.size := NG4
            obtain ⟨z0, z1, z2, z3, z4, z5⟩ := NF.all
            refine oneH (i := 18) rfl (by kernel_rfl) rfl (op_skip (w' := (putQ wf5 wb3.heap.size (.int .i64 (B2 : Int)) (.slice xa lo2.length xc) (.slice ya rs2.length yc))) rfl (by unfold putQ; go_simp) ⟨trivial, ?_⟩)
            try simp only [Act.put, List.setIfInBounds_toArray, List.set_cons_zero, List.set_cons_succ]
            refine takeH (i := 19) (v := .int .i64 most2) (d := 15) rfl rfl (by kernel_rfl) (by kernel_rfl) (by kernel_rfl) (fun _ _ _ h => h) (by rfl) (fun _ _ => by go_simp) trivial ?_
            simp only [Act.put, List.setIfInBounds_toArray, List.set_cons_zero, List.set_cons_succ]
            refine wpAnyH_done (by kernel_rfl) ?_ _
            have FX : Hid (QX (putQ wf5 wb3.heap.size (.int .i64 (B2 : Int)) (.slice xa lo2.length xc) (.slice ya rs2.length yc)) wb3.heap.size (.int .i64 (B2 : Int)) (.slice xa lo2.length xc) (.slice ya rs2.length yc)) := NF.put _ _ _
            have FB : Hid (Below W1.heap.size W1 (putQ wf5 wb3.heap.size (.int .i64 (B2 : Int)) (.slice xa lo2.length xc) (.slice ya rs2.length yc))) := below_putQ BF LF _ _ _
            have FQ : Hid (QuR (putQ wf5 wb3.heap.size (.int .i64 (B2 : Int)) (.slice xa lo2.length xc) (.slice ya rs2.length yc)) (.slice xa lo2.length xc) (.slice ya rs2.length yc) lo2 rs2) := ⟨MlR.ownd (NF.ownPut QL.1 (by decide)), (OwnBs.putQ NF QL.2).reads⟩
            have FF : Hid (Fil B2 (l.drop k ++ l.take k) lo2 rs2 f2) := hf2
            show Oper.wp _ _ _ _ _ _
            refine op_run (d := 16) (v' := .bool true) (w' := (putQ wf5 wb3.heap.size (.int .i64 (B2 : Int)) (.slice xa lo2.length xc) (.slice ya rs2.length yc))) rfl (by go_simp) ?_
            clear BN1 NN1 NG1 hr2 ho2 hg2 OA2 BA2 BN2 NN2 NG2 hr3 ho3 hg3 OB3 BB3 BN3 NN3 NG3 ON3 BN4 NN4 NG4 ON4 hf2 hq2 hb2 BF QL NF LF z0 z1 z2 z3 z4 z5
            generalize (putQ wf5 wb3.heap.size (.int .i64 (B2 : Int)) (.slice xa lo2.length xc) (.slice ya rs2.length yc)) = X at FX FB FQ ⊢
            generalize wb3.heap.size = nx at FX ⊢
            revert FF
            revert FQ
            revert FB
            revert FX
            revert X
            revert nx
            revert most2
            revert yc
            revert ya
            revert xc
            revert xa
            revert f2
            revert rs2
            revert lo2
            revert vb3
            revert va2
            exact HG.out
        · refine op_run (d := 14) (v' := .pointer (some ⟨wa2.heap.size, 0, none⟩)) (w' := (wa2.alloc (.cells #[.int .i64 0, .slice none 0 0, .slice none 0 0] 25))) rfl (by go_simp) ⟨trivial, ?_⟩
          simp only [Act.put, List.setIfInBounds_toArray, List.set_cons_zero, List.set_cons_succ]
          obtain ⟨vb6, wb6, hr6, ho6, hg6⟩ := run_append_rowK kM (w := (wa2.alloc (.cells #[.int .i64 0, .slice none 0 0, .slice none 0 0] 25))) 22 W1.heap.size va2 (l.drop k) ON3 (cutP ca 0 k k) (l.take k) (RU.out _ BN3) (by simp [kM]; omega) (by unfold maxLen; simp; omega) (BN3).size
          have OB6 : wb6.ownsRow W1.heap.size 27 2 vb6 (l.drop k ++ l.take k).length ((l.drop k ++ l.take k).flatMap encM) := ho6
          have BB6 : Below W1.heap.size W1 wb6 := (BN3).grown hg6 (BN3).size (fun q hq => (own_geM ON3 hq).1)
          have NB6 : QX wb6 wa2.heap.size (.int .i64 0) (.slice none 0 0) (.slice none 0 0) := NN3.grown ON3 (by decide) hg6
          refine oneH (i := 11) rfl (by kernel_rfl) rfl (call_append (d := 49) (s := .tmp 44) (x := .tmp 48) (t := 22) rfl rfl (v := va2) (v2 := (cutP ca 0 k k)) (by simp [Act.eval]) (by simp [Act.eval]) hr6 ⟨trivial, ?_⟩)
          simp only [Act.put, List.setIfInBounds_toArray, List.set_cons_zero, List.set_cons_succ]
          refine oneH (i := 12) rfl (by kernel_rfl) rfl (call_gets (d := 50) (f := 20) (xs := #[.tmp 40, .tmp 49]) (ats := #[3, 22]) rfl rfl efi (vs := #[.int .i64 (B2 : Int), vb6]) (by simp [Act.eval]) (filled_gets B2 _ (l.drop k ++ l.take k) _ (MlR.ownd OB6) HMU.out hC1 (by omega) (by simp; omega)) ?_)
          intro u7 wf7 h7
          obtain ⟨lo2, rs2, f2, xa, xc, ya, yc, most2, rfl, hf2, hq2, hb2⟩ := h7
          have BF : Below W1.heap.size W1 wf7 := (BB6).trans (hb2.mono (BB6).size)
          have QL : wf7.ownsRow W1.heap.size 27 2 (.slice xa lo2.length xc) lo2.length (lo2.flatMap encM) ∧ OwnBs wf7 W1.heap.size (.slice ya rs2.length yc) rs2 := ⟨own_lower hq2.1 (BB6).size, hq2.2.lower (BB6).size⟩
          refine ⟨trivial, ?_⟩
          simp only [Act.put, List.setIfInBounds_toArray, List.set_cons_zero, List.set_cons_succ]
          refine takeH (i := 13) (v := .tuple #[.agg #[.int .i64 (B2 : Int), .slice xa lo2.length xc, .slice ya rs2.length yc], .int .i64 most2, .bool true]) (d := 37) rfl rfl (by kernel_rfl) (by kernel_rfl) (by kernel_rfl) (fun _ _ _ h => h) (by rfl) (fun _ _ => by go_simp) trivial ?_
          simp only [Act.put, List.setIfInBounds_toArray, List.set_cons_zero, List.set_cons_succ]
          refine takeH (i := 14) (v := .agg #[.int .i64 (B2 : Int), .slice xa lo2.length xc, .slice ya rs2.length yc]) (d := 51) rfl rfl (by kernel_rfl) (by kernel_rfl) (by kernel_rfl) (fun _ _ _ h => h) (by rfl) (fun _ _ => by go_simp) trivial ?_
          simp only [Act.put, List.setIfInBounds_toArray, List.set_cons_zero, List.set_cons_succ]
          refine takeH (i := 15) (v := .int .i64 most2) (d := 52) rfl rfl (by kernel_rfl) (by kernel_rfl) (by kernel_rfl) (fun _ _ _ h => h) (by rfl) (fun _ _ => by go_simp) trivial ?_
          simp only [Act.put, List.setIfInBounds_toArray, List.set_cons_zero, List.set_cons_succ]
          refine takeH (i := 16) (v := .bool true) (d := 53) rfl rfl (by kernel_rfl) (by kernel_rfl) (by kernel_rfl) (fun _ _ _ h => h) (by rfl) (fun _ _ => by go_simp) trivial ?_
          simp only [Act.put, List.setIfInBounds_toArray, List.set_cons_zero, List.set_cons_succ]
          have NF : QX wf7 wa2.heap.size (.int .i64 0) (.slice none 0 0) (.slice none 0 0) := NB6.below hb2 NB6.lt
          have LF : W1.heap.size ≤ wa2.heap.size := NG3
          obtain ⟨z0, z1, z2, z3, z4, z5⟩ := NF.all
          refine oneH (i := 18) rfl (by kernel_rfl) rfl (op_skip (w' := (putQ wf7 wa2.heap.size (.int .i64 (B2 : Int)) (.slice xa lo2.length xc) (.slice ya rs2.length yc))) rfl (by unfold putQ; go_simp) ⟨trivial, ?_⟩)
          try simp only [Act.put, List.setIfInBounds_toArray, List.set_cons_zero, List.set_cons_succ]
          refine takeH (i := 19) (v := .int .i64 most2) (d := 15) rfl rfl (by kernel_rfl) (by kernel_rfl) (by kernel_rfl) (fun _ _ _ h => h) (by rfl) (fun _ _ => by go_simp) trivial ?_
          simp only [Act.put, List.setIfInBounds_toArray, List.set_cons_zero, List.set_cons_succ]
          refine wpAnyH_done (by kernel_rfl) ?_ _
          have FX : Hid (QX (putQ wf7 wa2.heap.size (.int .i64 (B2 : Int)) (.slice xa lo2.length xc) (.slice ya rs2.length yc)) wa2.heap.size (.int .i64 (B2 : Int)) (.slice xa lo2.length xc) (.slice ya rs2.length yc)) := NF.put _ _ _
          have FB : Hid (Below W1.heap.size W1 (putQ wf7 wa2.heap.size (.int .i64 (B2 : Int)) (.slice xa lo2.length xc) (.slice ya rs2.length yc))) := below_putQ BF LF _ _ _
          have FQ : Hid (QuR (putQ wf7 wa2.heap.size (.int .i64 (B2 : Int)) (.slice xa lo2.length xc) (.slice ya rs2.length yc)) (.slice xa lo2.length xc) (.slice ya rs2.length yc) lo2 rs2) := ⟨MlR.ownd (NF.ownPut QL.1 (by decide)), (OwnBs.putQ NF QL.2).reads⟩
          have FF : Hid (Fil B2 (l.drop k ++ l.take k) lo2 rs2 f2) := hf2
          show Oper.wp _ _ _ _ _ _
          refine op_run (d := 16) (v' := .bool true) (w' := (putQ wf7 wa2.heap.size (.int .i64 (B2 : Int)) (.slice xa lo2.length xc) (.slice ya rs2.length yc))) rfl (by go_simp) ?_
          clear BN1 NN1 NG1 hr2 ho2 hg2 OA2 BA2 BN2 NN2 NG2 hr3 ho3 hg3 OB3 BB3 BN3 NN3 NG3 ON3 hr6 ho6 hg6 OB6 BB6 NB6 hf2 hq2 hb2 BF QL NF LF z0 z1 z2 z3 z4 z5
          generalize (putQ wf7 wa2.heap.size (.int .i64 (B2 : Int)) (.slice xa lo2.length xc) (.slice ya rs2.length yc)) = X at FX FB FQ ⊢
          generalize wa2.heap.size = nx at FX ⊢
          revert FF
          revert FQ
          revert FB
          revert FX
          revert X
          revert nx
          revert most2
          revert yc
          revert ya
          revert xc
          revert xa
          revert f2
          revert rs2
          revert lo2
          revert vb6
          revert va2
          exact HG.out
      · refine op_run (d := 14) (v' := .pointer (some ⟨W1.heap.size, 0, none⟩)) (w' := (W1.drew.alloc (.cells #[.int .i64 0, .slice none 0 0, .slice none 0 0] 25))) rfl (by go_simp) ⟨trivial, ?_⟩
        simp only [Act.put, List.setIfInBounds_toArray, List.set_cons_zero, List.set_cons_succ]
        obtain ⟨va8, wa8, hr8, ho8, hg8⟩ := run_append_rowK kM (w := (W1.drew.alloc (.cells #[.int .i64 0, .slice none 0 0, .slice none 0 0] 25))) 22 W1.heap.size (.slice none 0 0) ([] : List Ml) (World.ownsRow_nil _ _ _ _) (cutP ca k l.length cc) (l.drop k) (RD.out _ BN2) (by simp [kM]; omega) (by unfold maxLen; simp; omega) (BN2).size
        have OA8 : wa8.ownsRow W1.heap.size 27 2 va8 (l.drop k).length ((l.drop k).flatMap encM) := by have h := ho8; simpa [kM] using h
        have BA8 : Below W1.heap.size W1 wa8 := (BN2).grown hg8 (BN2).size (fun q hq => by cases hq)
        have NA8 : QX wa8 W1.heap.size (.int .i64 0) (.slice none 0 0) (.slice none 0 0) := (hg8.block _ NN2.lt (fun q => by cases q)).trans NN2
        refine oneH (i := 6) rfl (by kernel_rfl) rfl (call_append (d := 44) (s := .const (.slice none 0 0)) (x := .tmp 43) (t := 22) rfl rfl (v := .slice none 0 0) (v2 := (cutP ca k l.length cc)) (by simp [Act.eval]) (by simp [Act.eval]) hr8 ⟨trivial, ?_⟩)
        simp only [Act.put, List.setIfInBounds_toArray, List.set_cons_zero, List.set_cons_succ]
        obtain ⟨vb9, wb9, hr9, ho9, hg9⟩ := run_append_rowK kM (w := wa8) 22 W1.heap.size va8 (l.drop k) OA8 (cutP ca 0 k k) (l.take k) (RU.out _ BA8) (by simp [kM]; omega) (by unfold maxLen; simp; omega) (BA8).size
        have OB9 : wb9.ownsRow W1.heap.size 27 2 vb9 (l.drop k ++ l.take k).length ((l.drop k ++ l.take k).flatMap encM) := ho9
        have BB9 : Below W1.heap.size W1 wb9 := (BA8).grown hg9 (BA8).size (fun q hq => (own_geM OA8 hq).1)
        have NB9 : QX wb9 W1.heap.size (.int .i64 0) (.slice none 0 0) (.slice none 0 0) := NA8.grown OA8 (by decide) hg9
        refine oneH (i := 11) rfl (by kernel_rfl) rfl (call_append (d := 49) (s := .tmp 44) (x := .tmp 48) (t := 22) rfl rfl (v := va8) (v2 := (cutP ca 0 k k)) (by simp [Act.eval]) (by simp [Act.eval]) hr9 ⟨trivial, ?_⟩)
        simp only [Act.put, List.setIfInBounds_toArray, List.set_cons_zero, List.set_cons_succ]
        refine oneH (i := 12) rfl (by kernel_rfl) rfl (call_gets (d := 50) (f := 20) (xs := #[.tmp 40, .tmp 49]) (ats := #[3, 22]) rfl rfl efi (vs := #[.int .i64 (B2 : Int), vb9]) (by simp [Act.eval]) (filled_gets B2 _ (l.drop k ++ l.take k) _ (MlR.ownd OB9) HMU.out hC1 (by omega) (by simp; omega)) ?_)
        intro u10 wf10 h10
        obtain ⟨lo2, rs2, f2, xa, xc, ya, yc, most2, rfl, hf2, hq2, hb2⟩ := h10
        have BF : Below W1.heap.size W1 wf10 := (BB9).trans (hb2.mono (BB9).size)
        have QL : wf10.ownsRow W1.heap.size 27 2 (.slice xa lo2.length xc) lo2.length (lo2.flatMap encM) ∧ OwnBs wf10 W1.heap.size (.slice ya rs2.length yc) rs2 := ⟨own_lower hq2.1 (BB9).size, hq2.2.lower (BB9).size⟩
        refine ⟨trivial, ?_⟩
        simp only [Act.put, List.setIfInBounds_toArray, List.set_cons_zero, List.set_cons_succ]
        refine takeH (i := 13) (v := .tuple #[.agg #[.int .i64 (B2 : Int), .slice xa lo2.length xc, .slice ya rs2.length yc], .int .i64 most2, .bool true]) (d := 37) rfl rfl (by kernel_rfl) (by kernel_rfl) (by kernel_rfl) (fun _ _ _ h => h) (by rfl) (fun _ _ => by go_simp) trivial ?_
        simp only [Act.put, List.setIfInBounds_toArray, List.set_cons_zero, List.set_cons_succ]
        refine takeH (i := 14) (v := .agg #[.int .i64 (B2 : Int), .slice xa lo2.length xc, .slice ya rs2.length yc]) (d := 51) rfl rfl (by kernel_rfl) (by kernel_rfl) (by kernel_rfl) (fun _ _ _ h => h) (by rfl) (fun _ _ => by go_simp) trivial ?_
        simp only [Act.put, List.setIfInBounds_toArray, List.set_cons_zero, List.set_cons_succ]
        refine takeH (i := 15) (v := .int .i64 most2) (d := 52) rfl rfl (by kernel_rfl) (by kernel_rfl) (by kernel_rfl) (fun _ _ _ h => h) (by rfl) (fun _ _ => by go_simp) trivial ?_
        simp only [Act.put, List.setIfInBounds_toArray, List.set_cons_zero, List.set_cons_succ]
        refine takeH (i := 16) (v := .bool true) (d := 53) rfl rfl (by kernel_rfl) (by kernel_rfl) (by kernel_rfl) (fun _ _ _ h => h) (by rfl) (fun _ _ => by go_simp) trivial ?_
        simp only [Act.put, List.setIfInBounds_toArray, List.set_cons_zero, List.set_cons_succ]
        have NF : QX wf10 W1.heap.size (.int .i64 0) (.slice none 0 0) (.slice none 0 0) := NB9.below hb2 NB9.lt
        have LF : W1.heap.size ≤ W1.heap.size := NG2
        obtain ⟨z0, z1, z2, z3, z4, z5⟩ := NF.all
        refine oneH (i := 18) rfl (by kernel_rfl) rfl (op_skip (w' := (putQ wf10 W1.heap.size (.int .i64 (B2 : Int)) (.slice xa lo2.length xc) (.slice ya rs2.length yc))) rfl (by unfold putQ; go_simp) ⟨trivial, ?_⟩)
        try simp only [Act.put, List.setIfInBounds_toArray, List.set_cons_zero, List.set_cons_succ]
        refine takeH (i := 19) (v := .int .i64 most2) (d := 15) rfl rfl (by kernel_rfl) (by kernel_rfl) (by kernel_rfl) (fun _ _ _ h => h) (by rfl) (fun _ _ => by go_simp) trivial ?_
        simp only [Act.put, List.setIfInBounds_toArray, List.set_cons_zero, List.set_cons_succ]
        refine wpAnyH_done (by kernel_rfl) ?_ _
        have FX : Hid (QX (putQ wf10 W1.heap.size (.int .i64 (B2 : Int)) (.slice xa lo2.length xc) (.slice ya rs2.length yc)) W1.heap.size (.int .i64 (B2 : Int)) (.slice xa lo2.length xc) (.slice ya rs2.length yc)) := NF.put _ _ _
        have FB : Hid (Below W1.heap.size W1 (putQ wf10 W1.heap.size (.int .i64 (B2 : Int)) (.slice xa lo2.length xc) (.slice ya rs2.length yc))) := below_putQ BF LF _ _ _
        have FQ : Hid (QuR (putQ wf10 W1.heap.size (.int .i64 (B2 : Int)) (.slice xa lo2.length xc) (.slice ya rs2.length yc)) (.slice xa lo2.length xc) (.slice ya rs2.length yc) lo2 rs2) := ⟨MlR.ownd (NF.ownPut QL.1 (by decide)), (OwnBs.putQ NF QL.2).reads⟩
        have FF : Hid (Fil B2 (l.drop k ++ l.take k) lo2 rs2 f2) := hf2
        show Oper.wp _ _ _ _ _ _
        refine op_run (d := 16) (v' := .bool true) (w' := (putQ wf10 W1.heap.size (.int .i64 (B2 : Int)) (.slice xa lo2.length xc) (.slice ya rs2.length yc))) rfl (by go_simp) ?_
        clear BN1 NN1 NG1 hr2 ho2 hg2 OA2 BA2 BN2 NN2 NG2 hr8 ho8 hg8 OA8 BA8 NA8 hr9 ho9 hg9 OB9 BB9 NB9 hf2 hq2 hb2 BF QL NF LF z0 z1 z2 z3 z4 z5
        generalize (putQ wf10 W1.heap.size (.int .i64 (B2 : Int)) (.slice xa lo2.length xc) (.slice ya rs2.length yc)) = X at FX FB FQ ⊢
        generalize W1.heap.size = nx at FX ⊢
        revert FF
        revert FQ
        revert FB
        revert FX
        revert X
        revert nx
        revert most2
        revert yc
        revert ya
        revert xc
        revert xa
        revert f2
        revert rs2
        revert lo2
        revert vb9
        revert va8
        exact HG.out
    · refine op_run (d := 14) (v' := .pointer (some ⟨W1.heap.size, 0, none⟩)) (w' := (W1.drew.alloc (.cells #[.int .i64 0, .slice none 0 0, .slice none 0 0] 25))) rfl (by go_simp) ⟨trivial, ?_⟩
      simp only [Act.put, List.setIfInBounds_toArray, List.set_cons_zero, List.set_cons_succ]
      refine oneH (i := 1) rfl (by kernel_rfl) rfl (call_same (d := 39) (f := 18) (xs := #[.tmp 38, .const (.int .i64 50)]) (ats := #[3, 3]) rfl rfl epk (vs := #[.int .i64 n1, .int .i64 50]) (by simp [Act.eval]) (HPY.out _) ⟨trivial, ?_⟩)
      simp only [Act.put, List.setIfInBounds_toArray, List.set_cons_zero, List.set_cons_succ]
      refine takeH (i := 2) (v := .int .i64 (B2 : Int)) (d := 40) rfl rfl (by kernel_rfl) (by kernel_rfl) (by kernel_rfl) (fun _ _ _ h => h) (by rfl) (fun _ _ => by go_simp) trivial ?_
      simp only [Act.put, List.setIfInBounds_toArray, List.set_cons_zero, List.set_cons_succ]
      obtain ⟨va12, wa12, hr12, ho12, hg12⟩ := run_append_rowK kM (w := (W1.drew.alloc (.cells #[.int .i64 0, .slice none 0 0, .slice none 0 0] 25))) 22 W1.heap.size (.slice none 0 0) ([] : List Ml) (World.ownsRow_nil _ _ _ _) (cutP ca k l.length cc) (l.drop k) (RD.out _ BN1) (by simp [kM]; omega) (by unfold maxLen; simp; omega) (BN1).size
      have OA12 : wa12.ownsRow W1.heap.size 27 2 va12 (l.drop k).length ((l.drop k).flatMap encM) := by have h := ho12; simpa [kM] using h
      have BA12 : Below W1.heap.size W1 wa12 := (BN1).grown hg12 (BN1).size (fun q hq => by cases hq)
      have NA12 : QX wa12 W1.heap.size (.int .i64 0) (.slice none 0 0) (.slice none 0 0) := (hg12.block _ NN1.lt (fun q => by cases q)).trans NN1
      refine oneH (i := 6) rfl (by kernel_rfl) rfl (call_append (d := 44) (s := .const (.slice none 0 0)) (x := .tmp 43) (t := 22) rfl rfl (v := .slice none 0 0) (v2 := (cutP ca k l.length cc)) (by simp [Act.eval]) (by simp [Act.eval]) hr12 ⟨trivial, ?_⟩)
      simp only [Act.put, List.setIfInBounds_toArray, List.set_cons_zero, List.set_cons_succ]
      obtain ⟨vb13, wb13, hr13, ho13, hg13⟩ := run_append_rowK kM (w := wa12) 22 W1.heap.size va12 (l.drop k) OA12 (cutP ca 0 k k) (l.take k) (RU.out _ BA12) (by simp [kM]; omega) (by unfold maxLen; simp; omega) (BA12).size
      have OB13 : wb13.ownsRow W1.heap.size 27 2 vb13 (l.drop k ++ l.take k).length ((l.drop k ++ l.take k).flatMap encM) := ho13
      have BB13 : Below W1.heap.size W1 wb13 := (BA12).grown hg13 (BA12).size (fun q hq => (own_geM OA12 hq).1)
      have NB13 : QX wb13 W1.heap.size (.int .i64 0) (.slice none 0 0) (.slice none 0 0) := NA12.grown OA12 (by decide) hg13
      refine oneH (i := 11) rfl (by kernel_rfl) rfl (call_append (d := 49) (s := .tmp 44) (x := .tmp 48) (t := 22) rfl rfl (v := va12) (v2 := (cutP ca 0 k k)) (by simp [Act.eval]) (by simp [Act.eval]) hr13 ⟨trivial, ?_⟩)
      simp only [Act.put, List.setIfInBounds_toArray, List.set_cons_zero, List.set_cons_succ]
      refine oneH (i := 12) rfl (by kernel_rfl) rfl (call_gets (d := 50) (f := 20) (xs := #[.tmp 40, .tmp 49]) (ats := #[3, 22]) rfl rfl efi (vs := #[.int .i64 (B2 : Int), vb13]) (by simp [Act.eval]) (filled_gets B2 _ (l.drop k ++ l.take k) _ (MlR.ownd OB13) HMU.out hC1 (by omega) (by simp; omega)) ?_)
      intro u14 wf14 h14
      obtain ⟨lo2, rs2, f2, xa, xc, ya, yc, most2, rfl, hf2, hq2, hb2⟩ := h14
      have BF : Below W1.heap.size W1 wf14 := (BB13).trans (hb2.mono (BB13).size)
      have QL : wf14.ownsRow W1.heap.size 27 2 (.slice xa lo2.length xc) lo2.length (lo2.flatMap encM) ∧ OwnBs wf14 W1.heap.size (.slice ya rs2.length yc) rs2 := ⟨own_lower hq2.1 (BB13).size, hq2.2.lower (BB13).size⟩
      refine ⟨trivial, ?_⟩
      simp only [Act.put, List.setIfInBounds_toArray, List.set_cons_zero, List.set_cons_succ]
      refine takeH (i := 13) (v := .tuple #[.agg #[.int .i64 (B2 : Int), .slice xa lo2.length xc, .slice ya rs2.length yc], .int .i64 most2, .bool true]) (d := 37) rfl rfl (by kernel_rfl) (by kernel_rfl) (by kernel_rfl) (fun _ _ _ h => h) (by rfl) (fun _ _ => by go_simp) trivial ?_
      simp only [Act.put, List.setIfInBounds_toArray, List.set_cons_zero, List.set_cons_succ]
      refine takeH (i := 14) (v := .agg #[.int .i64 (B2 : Int), .slice xa lo2.length xc, .slice ya rs2.length yc]) (d := 51) rfl rfl (by kernel_rfl) (by kernel_rfl) (by kernel_rfl) (fun _ _ _ h => h) (by rfl) (fun _ _ => by go_simp) trivial ?_
      simp only [Act.put, List.setIfInBounds_toArray, List.set_cons_zero, List.set_cons_succ]
      refine takeH (i := 15) (v := .int .i64 most2) (d := 52) rfl rfl (by kernel_rfl) (by kernel_rfl) (by kernel_rfl) (fun _ _ _ h => h) (by rfl) (fun _ _ => by go_simp) trivial ?_
      simp only [Act.put, List.setIfInBounds_toArray, List.set_cons_zero, List.set_cons_succ]
      refine takeH (i := 16) (v := .bool true) (d := 53) rfl rfl (by kernel_rfl) (by kernel_rfl) (by kernel_rfl) (fun _ _ _ h => h) (by rfl) (fun _ _ => by go_simp) trivial ?_
      simp only [Act.put, List.setIfInBounds_toArray, List.set_cons_zero, List.set_cons_succ]
      have NF : QX wf14 W1.heap.size (.int .i64 0) (.slice none 0 0) (.slice none 0 0) := NB13.below hb2 NB13.lt
      have LF : W1.heap.size ≤ W1.heap.size := NG1
      obtain ⟨z0, z1, z2, z3, z4, z5⟩ := NF.all
      refine oneH (i := 18) rfl (by kernel_rfl) rfl (op_skip (w' := (putQ wf14 W1.heap.size (.int .i64 (B2 : Int)) (.slice xa lo2.length xc) (.slice ya rs2.length yc))) rfl (by unfold putQ; go_simp) ⟨trivial, ?_⟩)
      try simp only [Act.put, List.setIfInBounds_toArray, List.set_cons_zero, List.set_cons_succ]
      refine takeH (i := 19) (v := .int .i64 most2) (d := 15) rfl rfl (by kernel_rfl) (by kernel_rfl) (by kernel_rfl) (fun _ _ _ h => h) (by rfl) (fun _ _ => by go_simp) trivial ?_
      simp only [Act.put, List.setIfInBounds_toArray, List.set_cons_zero, List.set_cons_succ]
      refine wpAnyH_done (by kernel_rfl) ?_ _
      have FX : Hid (QX (putQ wf14 W1.heap.size (.int .i64 (B2 : Int)) (.slice xa lo2.length xc) (.slice ya rs2.length yc)) W1.heap.size (.int .i64 (B2 : Int)) (.slice xa lo2.length xc) (.slice ya rs2.length yc)) := NF.put _ _ _
      have FB : Hid (Below W1.heap.size W1 (putQ wf14 W1.heap.size (.int .i64 (B2 : Int)) (.slice xa lo2.length xc) (.slice ya rs2.length yc))) := below_putQ BF LF _ _ _
      have FQ : Hid (QuR (putQ wf14 W1.heap.size (.int .i64 (B2 : Int)) (.slice xa lo2.length xc) (.slice ya rs2.length yc)) (.slice xa lo2.length xc) (.slice ya rs2.length yc) lo2 rs2) := ⟨MlR.ownd (NF.ownPut QL.1 (by decide)), (OwnBs.putQ NF QL.2).reads⟩
      have FF : Hid (Fil B2 (l.drop k ++ l.take k) lo2 rs2 f2) := hf2
      show Oper.wp _ _ _ _ _ _
      refine op_run (d := 16) (v' := .bool true) (w' := (putQ wf14 W1.heap.size (.int .i64 (B2 : Int)) (.slice xa lo2.length xc) (.slice ya rs2.length yc))) rfl (by go_simp) ?_
      clear BN1 NN1 NG1 hr12 ho12 hg12 OA12 BA12 NA12 hr13 ho13 hg13 OB13 BB13 NB13 hf2 hq2 hb2 BF QL NF LF z0 z1 z2 z3 z4 z5
      generalize (putQ wf14 W1.heap.size (.int .i64 (B2 : Int)) (.slice xa lo2.length xc) (.slice ya rs2.length yc)) = X at FX FB FQ ⊢
      generalize W1.heap.size = nx at FX ⊢
      revert FF
      revert FQ
      revert FB
      revert FX
      revert X
      revert nx
      revert most2
      revert yc
      revert ya
      revert xc
      revert xa
      revert f2
      revert rs2
      revert lo2
      revert vb13
      revert va12
      exact HG.out
  case g =>
    intro va vb lo2 rs2 f2 xa xc ya yc most2 nx X FX FB FQ FF
    have BX : Hid (Below w.heap.size w X) := BA0.out.trans (FB.out.mono BA0.out.size)
    have XX : Hid (QX X na (.int .i64 (B1 : Int)) (.slice xa1 lo.length xc1) (.slice ya1 rs.length yc1)) := XA.out.below FB.out XA.out.lt
    have RX : Hid (QuR X (.slice xa1 lo.length xc1) (.slice ya1 rs.length yc1) lo rs) := RA.out.below FB.out (Nat.le_refl _)
    have HDa : Hid (∀ Y, QuR Y (.slice xa1 lo.length xc1) (.slice ya1 rs.length yc1) lo rs → Calls Try.prog 13 #[.agg #[.int .i64 (B1 : Int), .slice xa1 lo.length xc1, .slice ya1 rs.length yc1]] Y (RefP Y 0 (sortM l))) := fun Y hY => by
      have h := queueDrain_any (B1 : Int) _ _ lo rs Y hY HFa.out.bound
      rw [HFa.out.qu] at h
      have e : drainF lo (some f) = sortM l := sortM_congr HFa.out.perm
      rw [e] at h
      exact h
    have HDb : Hid (∀ Y, QuR Y (.slice xa lo2.length xc) (.slice ya rs2.length yc) lo2 rs2 → Calls Try.prog 13 #[.agg #[.int .i64 (B2 : Int), .slice xa lo2.length xc, .slice ya rs2.length yc]] Y (RefP Y 0 (sortM l))) := fun Y hY => by
      have h := queueDrain_any (B2 : Int) _ _ lo2 rs2 Y hY FF.out.bound
      rw [FF.out.qu] at h
      have e : drainF lo2 (some f2) = sortM l := sortM_congr (FF.out.perm.trans HPU.out)
      rw [e] at h
      exact h
    have hsl : Hid ((sortM l).length = l.length) := sortM_len l
    have hsx := BX.out.size
    obtain ⟨q0, q1, q2⟩ := XX.out.cells
    clear RD RU epk efi B0 hcF hcH HMU HPU HPY FB XA RA CA hccc hB1 hB2' hL1 hL2 hL3 HPX HPT
    go_wp2_with fail
    refine (HDa.out _ RX.out).mono ?_
    rintro e w3 ⟨v3, rfl, ho3, hb3⟩
    rw [okL_yes] at ho3
    have D3 : Hid (MlR w3 v3 (sortM l)) := MlR.ownd ho3
    obtain ⟨da, dc, rfl⟩ := D3.out.shape
    have B3 : Hid (Below w.heap.size w w3) := BX.out.trans (hb3.mono hsx)
    have F3 : Hid (QX w3 nx (.int .i64 (B2 : Int)) (.slice xa lo2.length xc) (.slice ya rs2.length yc)) := FX.out.below hb3 FX.out.lt
    have Q3 : Hid (QuR w3 (.slice xa lo2.length xc) (.slice ya rs2.length yc) lo2 rs2) := FQ.out.below hb3 (Nat.le_refl _)
    have hs3 := B3.out.size
    clear ho3 hb3 q0 q1 q2 FX FQ XX RX HDa
    obtain ⟨q0, q1, q2⟩ := F3.out.cells
    go_wp2_with fail
    refine (HDb.out _ Q3.out).mono ?_
    rintro e w4 ⟨v4, rfl, ho4, hb4⟩
    rw [okL_yes] at ho4
    have E4 : Hid (MlR w4 v4 (sortM l)) := MlR.ownd ho4
    obtain ⟨ea, ec, rfl⟩ := E4.out.shape
    have D4 : Hid (MlR w4 (.slice da (sortM l).length dc) (sortM l)) := D3.out.below hb4 (Nat.le_refl _)
    have B4 : Hid (Below w.heap.size w w4) := B3.out.trans (hb4.mono hs3)
    have hs4 := B4.out.size
    have HSM : Hid (∀ Y, MlR Y (.slice da (sortM l).length dc) (sortM l) → MlR Y (.slice ea (sortM l).length ec) (sortM l) → Calls Try.prog 22 #[.slice da (sortM l).length dc, .slice ea (sortM l).length ec] Y fun e w' => e = .returned (.bool true) ∧ Below Y.heap.size Y w') := fun Y h1 h2 => sameMailK_yes _ _ _ Y h1 h2
    have e1 : (((sortM l).length : Int) == (l.length : Int)) = true := by rw [hsl.out]; simp
    clear ho4 hb4 q0 q1 q2 D3 F3 Q3 HDb hsl
    generalize sortM l = sl at *
    go_wp2_with fail
    refine (HSM.out _ D4.out E4.out).mono ?_
    rintro e w5 ⟨rfl, hb5⟩
    have B5 : Hid (Below w.heap.size w w5) := B4.out.trans (hb5.mono hs4)
    clear hb5
    go_wp2_with fail
    go_ret
    exact ⟨ret_bool (by simp), B5.out⟩

set_option maxHeartbeats 400000 in
set_option maxRecDepth 100000 in
theorem lifted (os : Os) (started : os.Started) (H : Type) (enc : TypeId × Value → H) :
    ReturnsInHanded {} Try.checked os 7 .any (Rows.queueBudgetSpec.pre6 enc Try.prog Try.f7 Rows.queueBudgetRow.domain false) (Rows.queueBudgetSpec.post enc Try.prog Try.f7 false true false false) := by
  refine returnsInHanded_of_change_sized (C := Try.checked) own started (by kernel_rfl) Try.func7
    (ChangeSpec.witness6 (enc := enc) (C := Try.checked) false ⟨#[], #[.int .i64 0, .int .i64 0, .slice none 0 0, .int .i64 0], []⟩ 8 (by kernel_rfl) (by kernel_rfl) (by kernel_rfl) (by kernel_rfl)) ?_
  intro W base args ds gs before hval0 hW _ hsz0 _
  have hval : ∀ (j : Nat) t v, Try.f7.params[j]? = some t → args[j]? = some v → Value.okWide Try.prog W .any base t v := hval0
  have hW' := hW
  obtain ⟨p, q, hA0, hV, rfl, hfz, hnd⟩ := hW
  have hA : DataW.TrodAll enc Try.prog W 0 (fun _ => true) true Try.f7.params.toList args.toList ds p := hA0
  have hsz : (DataW.weightsEach Try.prog (Try.f7.params.toList ++ Rows.queueBudgetSpec.plain.varTypes Try.prog) (ds ++ gs)).all (fun x => decide (x ≤ reachBytes)) = true := hsz0
  rw [Try.params7] at hA hval hsz
  obtain ⟨v0, vs0, d0, ds0, p0, q0, hargs, rfl, rfl, h0, r0⟩ := trodAll_cons hA
  obtain ⟨v1, vs1, d1, ds1, p1, q1, rfl, rfl, rfl, h1, r1⟩ := trodAll_cons r0
  obtain ⟨v2, vs2, d2, ds2, p2, q2, rfl, rfl, rfl, h2, r2⟩ := trodAll_cons r1
  obtain ⟨v3, vs3, d3, ds3, p3, q3, rfl, rfl, rfl, h3, r3⟩ := trodAll_cons r2
  obtain ⟨rfl, rfl, rfl⟩ := trodAll_nil r3
  obtain rfl : args = #[v0, v1, v2, v3] := by cases args; simp_all
  obtain ⟨rfl, rfl⟩ := trodVars_none hV
  have k0 := h0
  have lt0 : ∀ x ∈ p0, x.block < W.heap.size := by obtain ⟨m, hm⟩ := k0; exact DataW.trod_lt m _ _ _ hm
  have k1 := h1
  have lt1 : ∀ x ∈ p1, x.block < W.heap.size := by obtain ⟨m, hm⟩ := k1; exact DataW.trod_lt m _ _ _ hm
  have k2 := h2
  have lt2 : ∀ x ∈ p2, x.block < W.heap.size := by obtain ⟨m, hm⟩ := k2; exact DataW.trod_lt m _ _ _ hm
  have hw2 : ∀ m ∈ d2.weights Try.prog 40, m ≤ reachBytes := fun m hm => by simpa using List.all_eq_true.1 hsz _ (DataW.weights_mem_each (j := 2) (t := 40) rfl rfl m hm)
  have k3 := h3
  have lt3 : ∀ x ∈ p3, x.block < W.heap.size := by obtain ⟨m, hm⟩ := k3; exact DataW.trod_lt m _ _ _ hm
  obtain ⟨n0, rfl, _, _, wf0⟩ := open_int Try.underlying3 (hval 0 3 v0 rfl rfl) h0
  have hI0 := bounds_i64 wf0
  obtain ⟨n1, rfl, _, _, wf1⟩ := open_int Try.underlying3 (hval 1 3 v1 rfl rfl) h1
  have hI1 := bounds_i64 wf1
  obtain ⟨es2, hR2, hB2, hL2⟩ := open_posts (okWide_slice Try.underlying40 (hval 2 40 v2 rfl rfl)) h2 hw2
  obtain ⟨n3, rfl, _, _, wf3⟩ := open_int Try.underlying3 (hval 3 3 v3 rfl rfl) h3
  have hI3 := bounds_i64 wf3
  clear hA0 hval0
  refine (walk n0 n1 v2 es2 n3 W hI0 hI1 hR2 hB2 hL2 hI3).mono fun e W' ⟨he, bel⟩ => ?_
  subst he
  exact ⟨_, rfl, _, _, _, [], _, [], hW', trodAll_mk1 (shut_bool Try.underlying4 _), (trodAll_cons_mk (Below.trod laidOut (by kernel_rfl) (of_decide_eq_true (by kernel_rfl)) k0 bel lt0) (trodAll_cons_mk (Below.trod laidOut (by kernel_rfl) (of_decide_eq_true (by kernel_rfl)) k1 bel lt1) (trodAll_cons_mk (Below.trod laidOut (by kernel_rfl) (of_decide_eq_true (by kernel_rfl)) k2 bel lt2) (trodAll_cons_mk (Below.trod laidOut (by kernel_rfl) (of_decide_eq_true (by kernel_rfl)) k3 bel lt3) trodAll_mk0)))), rfl, bel.frame _, fun h => by cases h⟩

theorem over : Rows.queueBudgetRow.holds Try.pinned (OpenSpec.ofChange Rows.queueBudgetSpec) :=
  OpenClaim.holds_of_wide 7 Try.f7 rfl rfl rfl rfl rfl rfl rfl ⟨rfl, rfl, rfl, rfl, rfl⟩ rfl rfl rfl rfl rfl (by kernel_rfl) Try.func7 (by kernel_rfl)
    (of_decide_eq_true (by kernel_rfl)) (by unfold Func.isWrapper; first | (rw [if_pos (by decide +kernel)]; kernel_rfl) | (rw [if_neg (by decide +kernel)]; exact ⟨rfl, rfl⟩))
    (fun os started H enc _ => lifted os started H enc)

/-- The statement. -/
theorem proved : Rows.QueueBudgetSaid := over
#print axioms proved
end Go.Proofs.Ytihghhmhgakkaaa.queueBudget
