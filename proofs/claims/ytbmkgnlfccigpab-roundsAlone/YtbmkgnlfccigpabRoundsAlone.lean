/-
  For every number, ways, kind, source and turn a job over a graph that is made of them tells the same, after as many rounds, where edges stand twice and in another order (the law RoundsAlone returns true, and its arguments read as before); no condition.
-/
import Derived.Test.YtbmkgnlfccigpabWayOpen
import Derived.Test.YtbmkgnlfccigpabRoundsAlonePartA
import Derived.Test.YtbmkgnlfccigpabRoundsAlonePartB
import Derived.Test.YtbmkgnlfccigpabRowAppend
import Derived.WalkKit
import Derived.ProofKit
import Derived.OpenShut
import Derived.ShutString
import Derived.SizedLaws
import Derived.ChangeOld
import Derived.Below
namespace Go.Proofs.Ytbmkgnlfccigpab.roundsAlone
set_option maxRecDepth 100000
open Go.ChangeShapes Go.WideShapes Go.ChangeAt Go.RowKit

theorem own : ownKnob Try.prog.godebug = none := by kernel_rfl
theorem laidOut : laidOutB Try.prog = true := by kernel_rfl

set_option maxHeartbeats 8000000 in
set_option maxRecDepth 100000 in
theorem walk (n0 : Int) (v1 : Value) (es1 : List Ed) (n2 : Int) (n3 : Int) (n4 : Int) (w : World) (hI0 : -9223372036854775808 ≤ n0 ∧ n0 ≤ 9223372036854775807) (hR1 : EdR w v1 es1) (hB1 : ∀ x ∈ es1, edB x) (hL1 : es1.length * 24 ≤ 140737488351232) (hI2 : -9223372036854775808 ≤ n2 ∧ n2 ≤ 9223372036854775807) (hI3 : -9223372036854775808 ≤ n3 ∧ n3 ≤ 9223372036854775807) (hI4 : -9223372036854775808 ≤ n4 ∧ n4 ≤ 9223372036854775807) :
    Calls Try.prog 3 #[.int .i64 n0, v1, .int .i64 n2, .int .i64 n3, .int .i64 n4] w fun e w' => e = .returned (.bool true) ∧ Below w.heap.size w w' := by
  have _u := hI0
  clear _u
  have _u := hR1
  clear _u
  have _u := hB1
  clear _u
  have _u := hL1
  clear _u
  have _u := hI2
  clear _u
  have _u := hI3
  clear _u
  have _u := hI4
  clear _u
  have HR : Hid (EdR w v1 es1) := hR1
  have hpb := pickF_bd n0 6 (by omega)
  have hpk := pickF_bd n2 3 (by omega)
  have CJ : Hid (∀ X, EdR X v1 es1 → Calls Try.prog 5 #[.int .i64 n0, v1, .int .i64 n2, .int .i64 n3] X fun e w' => ∃ aa ac, e = .returned (.agg #[.int .i64 (1 + pickF n0 6), .slice aa (madeL (1 + pickF n0 6) es1).length ac, .int .i64 (1 + pickF n2 3), .int .i64 (pickF n3 (1 + pickF n0 6))]) ∧ w'.ownsRow X.heap.size 50 3 (.slice aa (madeL (1 + pickF n0 6) es1).length ac) (madeL (1 + pickF n0 6) es1).length ((madeL (1 + pickF n0 6) es1).flatMap encE) ∧ Below X.heap.size X w') := fun X hX => (kjob_any n0 n2 n3 v1 es1 X hX hB1 hI0 hI2 hI3).mono fun e w' ⟨v', h1, h2, h3⟩ => by
    have h4 : EdR w' v' (madeL (1 + pickF n0 6) es1) := RowK.own encE_len h2
    obtain ⟨aa, ac, rfl⟩ := h4.shape
    exact ⟨aa, ac, h1, h2, h3⟩
  have F0 : Hid (faultE (1 + pickF n0 6) (madeL (1 + pickF n0 6) es1) = 0) := made_right (by omega) (by omega)
  have HW9 : Hid (∀ e ∈ madeL (1 + pickF n0 6) es1, e.2.2 ≤ 9) := made_wgt
  have hEl := made_len (1 + pickF n0 6) es1
  have hn0 : 0 < 1 + pickF n0 6 := by omega
  have hn8 : 1 + pickF n0 6 ≤ 6 := by omega
  have hps0 := pickF_bd n3 (1 + pickF n0 6) hn0
  generalize madeL (1 + pickF n0 6) es1 = E at *
  generalize pickF n3 (1 + pickF n0 6) = pv at *
  generalize 1 + pickF n0 6 = N at *
  obtain ⟨m, rfl⟩ : ∃ m : Nat, N = m := ⟨N.toNat, by omega⟩
  have hk3 : 1 ≤ 1 + pickF n2 3 ∧ 1 + pickF n2 3 ≤ 3 := by omega
  generalize 1 + pickF n2 3 = k at *
  have hm0 : 0 < m := by omega
  have HG : Hid (InG m E) := in_fault F0.out
  have HJE : Hid (jobE (m : Int) E k pv = 0) := jobE_ok F0.out hk3 (fun _ => hps0)
  obtain ⟨i0, T, hi1, hi2, hG, hdn, hst, hvl⟩ := job_rounds hm0 (by omega) hk3 hps0 HG.out HW9.out
  have CP : Hid (∀ X, Calls Try.prog 6 #[.int .i64 n4, .int .i64 ((E.length : Int) + 1)] X fun e w' => e = .returned (.int .i64 (pickF n4 ((E.length : Int) + 1))) ∧ X = w') := fun X => (picked_any n4 ((E.length : Int) + 1) X hI4.1 hI4.2 (by omega) (by omega)).mono fun e w' h => ⟨h.1, h.2.symm⟩
  have hp4 := pickF_bd n4 ((E.length : Int) + 1) (by omega)
  generalize pickF n4 ((E.length : Int) + 1) = mo at *
  obtain ⟨tt, rfl⟩ : ∃ q : Nat, mo = q := ⟨mo.toNat, by omega⟩
  have htt : tt ≤ E.length := by omega
  have wl : IntKind.i64.wrap ((E.length : Int) + 1) = (E.length : Int) + 1 := wrap_id64 (by omega) (by omega)
  have HE2 : ∀ e, e ∈ E ↔ e ∈ E.drop tt ++ E := fun e => ⟨fun h => List.mem_append.2 (.inr h), fun h => by
    rcases List.mem_append.1 h with h | h
    · exact List.mem_of_mem_drop h
    · exact h⟩
  have hl2 : (E.drop tt ++ E).length ≤ 20 := by rw [List.length_append, List.length_drop]; omega
  obtain ⟨T2, hG2, hS2⟩ := goes_same (k := k) (s := pv) (by omega) HG.out (by omega) HE2 i0 (beginS m) T (beginS m) hG (begin_may hk3 m) (by show (0 : Int) + i0 ≤ 100000; omega) (SimI.refl _ _)
  have HG2 : InG m (E.drop tt ++ E) := fun e he => HG.out e ((HE2 e).2 he)
  have F2 : faultE (m : Int) (E.drop tt ++ E) = 0 := by
    have h5 := fault_ok F0.out
    have ha : (E.drop tt ++ E).any (outE (m : Int)) = false := List.any_eq_false.2 fun e he => by rw [h5.2.2.2 e ((HE2 e).2 he)]; simp
    rw [fault_any (by omega) _ ha]; rfl
  have HT := ranT_of HJE.out HG.out hG (by omega) hdn
  have HT2 := ranT_of (jobE_ok F2 hk3 (fun _ => hps0)) HG2 hG2 (by omega) (by rw [hS2.done]; exact hdn)
  have CRA : Hid (∀ X v, EdR X v E → Calls Try.prog 7 #[.agg #[.int .i64 m, v, .int .i64 k, .int .i64 pv]] X fun e w' => ∃ la lc a1 n1 k1 a2 n2 k2, e = .returned (.tuple #[.slice la (T.vals.map (tellV k)).length lc, .agg #[.int .i64 T.step, .int .i64 T.phase, .bool T.fresh, .bool true, .slice a1 n1 k1, .slice a2 n2 k2], .bool true]) ∧ InR w' (.slice la (T.vals.map (tellV k)).length lc) (T.vals.map (tellV k)) ∧ Below X.heap.size X w') := fun X v hX => kran_any v E m k pv T X hX HT
  have CRB : Hid (∀ X v, EdR X v (E.drop tt ++ E) → Calls Try.prog 7 #[.agg #[.int .i64 m, v, .int .i64 k, .int .i64 pv]] X fun e w' => ∃ la lc a1 n1 k1 a2 n2 k2, e = .returned (.tuple #[.slice la (T.vals.map (tellV k)).length lc, .agg #[.int .i64 T.step, .int .i64 T2.phase, .bool T2.fresh, .bool true, .slice a1 n1 k1, .slice a2 n2 k2], .bool true]) ∧ InR w' (.slice la (T.vals.map (tellV k)).length lc) (T.vals.map (tellV k)) ∧ Below X.heap.size X w') := fun X v hX => by
    have h1 := kran_any v (E.drop tt ++ E) m k pv T2 X hX HT2
    rw [hS2.vals, hS2.step] at h1
    exact h1
  have tl : (((T.vals.map (tellV k)).length : Int) == (m : Int)) = true := by rw [List.length_map]; simp; omega
  have tss : (T.step == T.step) = true := by simp
  generalize T.vals.map (tellV k) = L at *
  generalize T.step = ts at *
  generalize T.phase = p1 at *
  generalize T.fresh = fr1 at *
  generalize T2.phase = p2 at *
  generalize T2.fresh = fr2 at *
  have hEl3 : (E.drop tt).length ≤ 10 := by rw [List.length_drop]; omega
  have hkb : kE.bytes = 24 := rfl
  have hcut : ∀ (a : Option Addr) (cap : Nat) (V : World), (Instr.slice 23 (.slice a E.length cap) (some (.int .i64 (tt : Int))) none none).run Try.prog V = .ok (cutE a tt E.length cap) V := fun a cap V => run_cutEF a E.length cap tt htt V
  clear hpb hpk hB1 hL1 hI0 hI2 hI3 hI4 F0 HW9 hps0 HG HJE hG hdn hst hvl HE2 hG2 hS2 HG2 F2 HT HT2
  obtain ⟨a, cap, rfl⟩ := hR1.shape
  clear hR1
  go_enter Try.func3, Try.ntmps3
  go_wp2_with fail
  refine (CJ.out _ HR.out).mono ?_
  rintro e w1 ⟨aa, ac, rfl, hed1, hb1⟩
  have W1 : Hid (BX 27 (w1.alloc (.cells #[.int .i64 m, .slice aa E.length ac, .int .i64 k, .int .i64 pv] 27)) w1.heap.size #[.int .i64 m, .slice aa E.length ac, .int .i64 k, .int .i64 pv] ∧ (w1.alloc (.cells #[.int .i64 m, .slice aa E.length ac, .int .i64 k, .int .i64 pv] 27)).ownsRow w.heap.size 50 3 (.slice aa E.length ac) E.length (E.flatMap encE) ∧ Below w.heap.size w (w1.alloc (.cells #[.int .i64 m, .slice aa E.length ac, .int .i64 k, .int .i64 pv] 27))) := ⟨BX.new _ _ _, hed1.alloc _, hb1.alloc hb1.size _⟩
  clear hed1 hb1 CJ
  go_upto_region 2 with fail
  generalize w1.alloc (.cells #[.int .i64 m, .slice aa E.length ac, .int .i64 k, .int .i64 pv] 27) = W0 at *
  generalize w1.heap.size = jq at *
  obtain ⟨x0, e0, b0⟩ := W1.out
  have W2 : Hid (BX 27 (W0.alloc (.cells #[.int .i64 m, .slice aa E.length ac, .int .i64 k, .int .i64 pv] 27)) jq #[.int .i64 m, .slice aa E.length ac, .int .i64 k, .int .i64 pv] ∧ BX 27 (W0.alloc (.cells #[.int .i64 m, .slice aa E.length ac, .int .i64 k, .int .i64 pv] 27)) W0.heap.size #[.int .i64 m, .slice aa E.length ac, .int .i64 k, .int .i64 pv] ∧ (W0.alloc (.cells #[.int .i64 m, .slice aa E.length ac, .int .i64 k, .int .i64 pv] 27)).ownsRow w.heap.size 50 3 (.slice aa E.length ac) E.length (E.flatMap encE) ∧ Below w.heap.size w (W0.alloc (.cells #[.int .i64 m, .slice aa E.length ac, .int .i64 k, .int .i64 pv] 27)) ∧ jq ≠ W0.heap.size ∧ w.heap.size ≤ W0.heap.size) := ⟨x0.below (below_alloc _ _) x0.lt, BX.new _ _ _, e0.alloc _, b0.alloc b0.size _, Nat.ne_of_lt x0.lt, b0.size⟩
  obtain ⟨j0, j1, j2, j3⟩ := x0.all4
  clear x0 e0 b0 W1
  go_upto_region 3 with fail
  generalize W0.alloc (.cells #[.int .i64 m, .slice aa E.length ac, .int .i64 k, .int .i64 pv] 27) = W3 at *
  generalize W0.heap.size = kq at *
  clear j0 j1 j2 j3
  obtain ⟨x3, y3, e3, b3, hne, hkq⟩ := W2.out
  have X3 : Hid (BX 27 W3 jq #[.int .i64 m, .slice aa E.length ac, .int .i64 k, .int .i64 pv]) := x3
  have Y3 : Hid (BX 27 W3 kq #[.int .i64 m, .slice aa E.length ac, .int .i64 k, .int .i64 pv]) := y3
  have E3 : Hid (W3.ownsRow w.heap.size 50 3 (.slice aa E.length ac) E.length (E.flatMap encE)) := e3
  have B3 : Hid (Below w.heap.size w W3) := b3
  obtain ⟨j0, j1, j2, j3⟩ := x3.all4
  clear x3 y3 e3 b3 W2
  go_wp2_with fail
  refine (CP.out _).mono ?_
  rintro e w4 ⟨rfl, rfl⟩
  go_upto_region 4 with fail
  clear j0 j1 j2 j3
  have HSV : Hid (∀ V, Below W3.heap.size W3 V → (V.cell? ⟨jq, 1, none⟩ = some (.slice aa E.length ac))) := fun V hV => (X3.out.below hV X3.out.lt).all4.2.1
  have bd : Below W3.heap.size W3 W3.drew := (Below.refl _ _).drew
  have HS0 : Hid (W3.drew.cell? ⟨jq, 1, none⟩ = some (.slice aa E.length ac)) := HSV.out _ bd
  obtain ⟨v5, w5, hrun5, hown5, hg5⟩ := run_append_rowK kE (w := W3.drew) 23 W3.heap.size (.slice none 0 0) [] (World.ownsRow_nil _ _ _ _) (cutE aa tt E.length ac) (E.drop tt) (reads_cutEF (RowK.own encE_len (own_below E3.out bd (Nat.le_refl _))) htt) (by rw [hkb]; simp only [List.length_nil]; omega) (by unfold maxLen; simp only [List.length_nil]; omega) (Nat.le_refl _)
  have b5 : Below W3.heap.size W3 w5 := bd.grown hg5 (Nat.le_refl _) (fun q hq => by cases hq)
  simp only [List.nil_append] at hown5
  have HS5 : Hid (w5.cell? ⟨jq, 1, none⟩ = some (.slice aa E.length ac)) := HSV.out _ b5
  obtain ⟨v9, w9, hrun9, hown9, hg9⟩ := run_append_rowK kE (w := w5) 23 W3.heap.size v5 (E.drop tt) hown5 (.slice aa E.length ac) E (RowK.own encE_len (own_below E3.out b5 (Nat.le_refl _))) (by rw [hkb]; omega) (by unfold maxLen; omega) b5.size
  have b9 : Below W3.heap.size W3 w9 := b5.grown hg9 b5.size (fun q hq => (own_ge hown5 hq).1)
  have HS9 : Hid (w9.cell? ⟨jq, 1, none⟩ = some (.slice aa E.length ac)) := HSV.out _ b9
  obtain ⟨ba, bn, bc, rfl⟩ : ∃ ba bn bc, v9 = .slice ba bn bc := by
    obtain ⟨x1, x2, e⟩ := (RowK.own encE_len hown9 : EdR w9 v9 (E.drop tt ++ E)).shape
    exact ⟨_, _, _, e⟩
  have Y9 := Y3.out.below b9 Y3.out.lt
  obtain ⟨y0, y1, y2, y3⟩ := Y9.all4
  have yf := Y9.frozen 1
  have WX : Hid (BX 27 (w9.setCell ⟨kq, 1, none⟩ (.slice ba bn bc)) jq #[.int .i64 m, .slice aa E.length ac, .int .i64 k, .int .i64 pv] ∧ BX 27 (w9.setCell ⟨kq, 1, none⟩ (.slice ba bn bc)) kq #[.int .i64 m, .slice ba bn bc, .int .i64 k, .int .i64 pv] ∧ EdR (w9.setCell ⟨kq, 1, none⟩ (.slice ba bn bc)) (.slice aa E.length ac) E ∧ EdR (w9.setCell ⟨kq, 1, none⟩ (.slice ba bn bc)) (.slice ba bn bc) (E.drop tt ++ E) ∧ Below w.heap.size w (w9.setCell ⟨kq, 1, none⟩ (.slice ba bn bc))) := by
    have kp : Kept (fun q => q = kq) w9 (w9.setCell ⟨kq, 1, none⟩ (.slice ba bn bc)) := Kept.box _ _ _ _
    refine ⟨(X3.out.below b9 X3.out.lt).kept kp hne, Y9.set 1 _, ?_, RowK.own encE_len (own_off hown9 Y9 (by decide) kp), ?_⟩
    · exact RowK.own encE_len (own_off (own_below E3.out b9 (Nat.le_refl _)) Y9 (by decide) kp)
    · exact (B3.out.trans (b9.mono B3.out.size)).trans (kp.below (by have := B3.out.size; have := b9.size; omega) (fun q hq => by omega))
  have HSX : Hid ((w9.setCell ⟨kq, 1, none⟩ (.slice ba bn bc)).cell? ⟨jq, 1, none⟩ = some (.slice aa E.length ac)) := WX.out.1.all4.2.1
  refine wp_region_held (S := fun V => (V.cell? ⟨jq, 1, none⟩ = some (.slice aa E.length ac))) (by kernel_rfl) ?_
  simp only [List.size_toArray, List.length_cons, List.length_nil, Nat.reduceAdd]
  refine takeH (i := 0) (v := .pointer (some ⟨jq, 0, none⟩)) (d := 33) rfl rfl (by kernel_rfl) (by kernel_rfl) (by kernel_rfl) (fun _ _ _ h => h) (by rfl) (fun V hV => by have v1 := hV; go_simp) HS0.out ?_
  simp only [Act.put, List.setIfInBounds_toArray, List.set_cons_zero, List.set_cons_succ]
  refine takeH (i := 1) (v := .pointer (some ⟨jq, 1, none⟩)) (d := 34) rfl rfl (by kernel_rfl) (by kernel_rfl) (by kernel_rfl) (fun _ _ _ h => h) (by rfl) (fun V hV => by have v1 := hV; go_simp) HS0.out ?_
  simp only [Act.put, List.setIfInBounds_toArray, List.set_cons_zero, List.set_cons_succ]
  refine takeH (i := 2) (v := .slice aa E.length ac) (d := 35) rfl rfl (by kernel_rfl) (by kernel_rfl) (by kernel_rfl) (fun _ _ _ h => h) (by rfl) (fun V hV => by have v1 := hV; go_simp) HS0.out ?_
  simp only [Act.put, List.setIfInBounds_toArray, List.set_cons_zero, List.set_cons_succ]
  refine takeH (i := 3) (v := .int .i64 (tt : Int)) (d := 36) rfl rfl (by kernel_rfl) (by kernel_rfl) (by kernel_rfl) (fun _ _ _ h => h) (by rfl) (fun V hV => by have v1 := hV; go_simp) HS0.out ?_
  simp only [Act.put, List.setIfInBounds_toArray, List.set_cons_zero, List.set_cons_succ]
  refine takeH (i := 4) (v := cutE aa tt E.length ac) (d := 37) rfl rfl (by kernel_rfl) (by kernel_rfl) (by kernel_rfl) (fun _ _ _ h => h) (by rfl) (fun V hV => by have v1 := hV; go_simp) HS0.out ?_
  simp only [Act.put, List.setIfInBounds_toArray, List.set_cons_zero, List.set_cons_succ]
  refine takeH (i := 6) (v := .pointer (some ⟨jq, 0, none⟩)) (d := 39) rfl rfl (by kernel_rfl) (by kernel_rfl) (by kernel_rfl) (fun _ _ _ h => h) (by rfl) (fun V hV => by have v1 := hV; go_simp) HS0.out ?_
  simp only [Act.put, List.setIfInBounds_toArray, List.set_cons_zero, List.set_cons_succ]
  refine takeH (i := 7) (v := .pointer (some ⟨jq, 1, none⟩)) (d := 40) rfl rfl (by kernel_rfl) (by kernel_rfl) (by kernel_rfl) (fun _ _ _ h => h) (by rfl) (fun V hV => by have v1 := hV; go_simp) HS0.out ?_
  simp only [Act.put, List.setIfInBounds_toArray, List.set_cons_zero, List.set_cons_succ]
  refine takeH (i := 8) (v := .slice aa E.length ac) (d := 41) rfl rfl (by kernel_rfl) (by kernel_rfl) (by kernel_rfl) (fun _ _ _ h => h) (by rfl) (fun V hV => by have v1 := hV; go_simp) HS0.out ?_
  simp only [Act.put, List.setIfInBounds_toArray, List.set_cons_zero, List.set_cons_succ]
  refine oneH (i := 5) rfl (by kernel_rfl) rfl (call_append (d := 38) (s := .const (.slice none 0 0)) (x := .tmp 37) (t := 23) rfl rfl rfl rfl hrun5 ⟨HS5.out, ?_⟩)
  simp only [Act.put, List.setIfInBounds_toArray, List.set_cons_zero, List.set_cons_succ]
  refine oneH (i := 9) rfl (by kernel_rfl) rfl (call_append (d := 42) (s := .tmp 38) (x := .tmp 41) (t := 23) rfl rfl rfl rfl hrun9 ⟨HS9.out, ?_⟩)
  simp only [Act.put, List.setIfInBounds_toArray, List.set_cons_zero, List.set_cons_succ]
  refine takeH (i := 10) (v := .pointer (some ⟨kq, 0, none⟩)) (d := 43) rfl rfl (by kernel_rfl) (by kernel_rfl) (by kernel_rfl) (fun _ _ _ h => h) (by rfl) (fun V hV => by have v1 := hV; go_simp) HS9.out ?_
  simp only [Act.put, List.setIfInBounds_toArray, List.set_cons_zero, List.set_cons_succ]
  refine takeH (i := 11) (v := .pointer (some ⟨kq, 1, none⟩)) (d := 44) rfl rfl (by kernel_rfl) (by kernel_rfl) (by kernel_rfl) (fun _ _ _ h => h) (by rfl) (fun V hV => by have v1 := hV; go_simp) HS9.out ?_
  simp only [Act.put, List.setIfInBounds_toArray, List.set_cons_zero, List.set_cons_succ]
  refine oneH (i := 12) rfl (by kernel_rfl) rfl (op_skip (w' := w9.setCell ⟨kq, 1, none⟩ (.slice ba bn bc)) rfl (by go_simp) ⟨HSX.out, ?_⟩)
  refine wpAnyH_done (by kernel_rfl) ?_ _
  clear HS0 HS5 HS9 HSX HSV bd b5 b9 hrun5 hrun9 hown5 hown9 hg5 hg9 Y9 y0 y1 y2 y3 yf X3 Y3 E3 B3 CP hcut
  generalize w9.setCell ⟨kq, 1, none⟩ (.slice ba bn bc) = W1 at *
  generalize E.drop tt ++ E = E2 at *
  obtain ⟨x1, y1, e1, g1, b1⟩ := WX.out
  have HK : Hid (∀ X, Below W1.heap.size W1 X → BX 27 X jq #[.int .i64 m, .slice aa E.length ac, .int .i64 k, .int .i64 pv] ∧ BX 27 X kq #[.int .i64 m, .slice ba bn bc, .int .i64 k, .int .i64 pv] ∧ EdR X (.slice aa E.length ac) E ∧ EdR X (.slice ba bn bc) E2 ∧ Below w.heap.size w X) := fun X hX => ⟨x1.below hX x1.lt, y1.below hX y1.lt, e1.below hX (Nat.le_refl _), g1.below hX (Nat.le_refl _), b1.trans (hX.mono b1.size)⟩
  have A1 : Hid (Below W1.heap.size W1 W1) := Below.refl _ _
  obtain ⟨j0, j1, j2, j3⟩ := x1.all4
  clear x1 y1 e1 g1 b1 WX
  go_wp2_with fail
  refine (CRA.out _ _ (HK.out _ A1.out).2.2.1).mono ?_
  rintro e W2 ⟨la, lc, a1, n1, k1, a2, n2, k2, rfl, hr2, hb2⟩
  have W3 : Hid (Below W1.heap.size W1 (W2.alloc (.cells #[.int .i64 ts, .int .i64 p1, .bool fr1, .bool true, .slice a1 n1 k1, .slice a2 n2 k2] 34)) ∧ BX 34 (W2.alloc (.cells #[.int .i64 ts, .int .i64 p1, .bool fr1, .bool true, .slice a1 n1 k1, .slice a2 n2 k2] 34)) W2.heap.size #[.int .i64 ts, .int .i64 p1, .bool fr1, .bool true, .slice a1 n1 k1, .slice a2 n2 k2] ∧ InR (W2.alloc (.cells #[.int .i64 ts, .int .i64 p1, .bool fr1, .bool true, .slice a1 n1 k1, .slice a2 n2 k2] 34)) (.slice la L.length lc) L) := ⟨hb2.alloc hb2.size _, BX.new _ _ _, hr2.below (below_alloc _ _) (Nat.le_refl _)⟩
  clear hr2 hb2 j0 j1 j2 j3 CRA A1
  go_upto_region 6 with fail
  generalize W2.alloc (.cells #[.int .i64 ts, .int .i64 p1, .bool fr1, .bool true, .slice a1 n1 k1, .slice a2 n2 k2] 34) = W4 at *
  generalize W2.heap.size = sq at *
  obtain ⟨b4, x4, r4⟩ := W3.out
  have A4 : Hid (Below W1.heap.size W1 W4) := b4
  have X4 : Hid (BX 34 W4 sq #[.int .i64 ts, .int .i64 p1, .bool fr1, .bool true, .slice a1 n1 k1, .slice a2 n2 k2]) := x4
  have R4 : Hid (InR W4 (.slice la L.length lc) L) := r4
  obtain ⟨_, K4, _, _, _⟩ := HK.out _ b4
  obtain ⟨j0, j1, j2, j3⟩ := K4.all4
  clear W3 b4 x4 r4 K4
  go_wp2_with fail
  refine (CRB.out _ _ (HK.out _ A4.out).2.2.2.1).mono ?_
  rintro e W5 ⟨ka, kc, c1, d1, f1, c2, d2, f2, rfl, hr5, hb5⟩
  have W6 : Hid (Below W1.heap.size W1 (W5.alloc (.cells #[.int .i64 ts, .int .i64 p2, .bool fr2, .bool true, .slice c1 d1 f1, .slice c2 d2 f2] 34)) ∧ BX 34 (W5.alloc (.cells #[.int .i64 ts, .int .i64 p2, .bool fr2, .bool true, .slice c1 d1 f1, .slice c2 d2 f2] 34)) sq #[.int .i64 ts, .int .i64 p1, .bool fr1, .bool true, .slice a1 n1 k1, .slice a2 n2 k2] ∧ BX 34 (W5.alloc (.cells #[.int .i64 ts, .int .i64 p2, .bool fr2, .bool true, .slice c1 d1 f1, .slice c2 d2 f2] 34)) W5.heap.size #[.int .i64 ts, .int .i64 p2, .bool fr2, .bool true, .slice c1 d1 f1, .slice c2 d2 f2] ∧ InR (W5.alloc (.cells #[.int .i64 ts, .int .i64 p2, .bool fr2, .bool true, .slice c1 d1 f1, .slice c2 d2 f2] 34)) (.slice la L.length lc) L ∧ InR (W5.alloc (.cells #[.int .i64 ts, .int .i64 p2, .bool fr2, .bool true, .slice c1 d1 f1, .slice c2 d2 f2] 34)) (.slice ka L.length kc) L) := by
    have h5 : Below W1.heap.size W1 W5 := A4.out.trans (hb5.mono A4.out.size)
    have h6 := X4.out.below hb5 X4.out.lt
    exact ⟨h5.alloc h5.size _, h6.below (below_alloc _ _) h6.lt, BX.new _ _ _, (R4.out.below hb5 (Nat.le_refl _)).below (below_alloc _ _) (Nat.le_refl _), hr5.below (below_alloc _ _) (Nat.le_refl _)⟩
  clear hr5 hb5 j0 j1 j2 j3 CRB A4 X4 R4
  go_upto_region 7 with fail
  generalize W5.alloc (.cells #[.int .i64 ts, .int .i64 p2, .bool fr2, .bool true, .slice c1 d1 f1, .slice c2 d2 f2] 34) = W7 at *
  generalize W5.heap.size = uq at *
  obtain ⟨b7, x7, y7, r7, s7⟩ := W6.out
  have A7 : Hid (Below W1.heap.size W1 W7) := b7
  have X7 : Hid (BX 34 W7 sq #[.int .i64 ts, .int .i64 p1, .bool fr1, .bool true, .slice a1 n1 k1, .slice a2 n2 k2]) := x7
  have Y7 : Hid (BX 34 W7 uq #[.int .i64 ts, .int .i64 p2, .bool fr2, .bool true, .slice c1 d1 f1, .slice c2 d2 f2]) := y7
  have CSM : Hid (∀ X, X = W7 → Calls Try.prog 8 #[.slice la L.length lc, .slice ka L.length kc] W7 fun e w' => e = .returned (.bool true) ∧ Below W7.heap.size W7 w') := fun X _ => sameIntsK_yes _ _ L W7 r7 s7
  obtain ⟨J7, _⟩ := HK.out _ b7
  obtain ⟨j0, j1, j2, j3⟩ := J7.all4
  clear W6 b7 x7 y7 r7 s7 J7
  go_wp2_with fail
  refine (CSM.out _ rfl).mono ?_
  rintro e W8 ⟨rfl, hb8⟩
  have x8 := X7.out.below hb8 X7.out.lt
  have y8 := Y7.out.below hb8 Y7.out.lt
  have BW : Hid (Below w.heap.size w W8) := (HK.out _ (A7.out.trans (hb8.mono A7.out.size))).2.2.2.2
  clear j0 j1 j2 j3
  obtain ⟨⟨c0, _⟩, _⟩ := x8.all6
  obtain ⟨⟨d0, _⟩, _⟩ := y8.all6
  clear x8 y8 hb8 X7 Y7 A7 CSM HK
  go_wp2_with fail
  go_ret
  exact ⟨rfl, BW.out⟩

set_option maxHeartbeats 400000 in
set_option maxRecDepth 100000 in
theorem lifted (os : Os) (started : os.Started) (H : Type) (enc : TypeId × Value → H) :
    ReturnsInHanded {} Try.checked os 3 .any (Rows.roundsAloneSpec.pre6 enc Try.prog Try.f3 Rows.roundsAloneRow.domain false) (Rows.roundsAloneSpec.post enc Try.prog Try.f3 false true false false) := by
  refine returnsInHanded_of_change_sized (C := Try.checked) own started (by kernel_rfl) Try.func3
    (ChangeSpec.witness6 (enc := enc) (C := Try.checked) false ⟨#[], #[.int .i64 0, .slice none 0 0, .int .i64 0, .int .i64 0, .int .i64 0], []⟩ 8 (by kernel_rfl) (by kernel_rfl) (by kernel_rfl) (by kernel_rfl)) ?_
  intro W base args ds gs before hval0 hW _ hsz0 _
  have hval : ∀ (j : Nat) t v, Try.f3.params[j]? = some t → args[j]? = some v → Value.okWide Try.prog W .any base t v := hval0
  have hW' := hW
  obtain ⟨p, q, hA0, hV, rfl, hfz, hnd⟩ := hW
  have hA : DataW.TrodAll enc Try.prog W 0 (fun _ => true) true Try.f3.params.toList args.toList ds p := hA0
  have hsz : (DataW.weightsEach Try.prog (Try.f3.params.toList ++ Rows.roundsAloneSpec.plain.varTypes Try.prog) (ds ++ gs)).all (fun x => decide (x ≤ reachBytes)) = true := hsz0
  rw [Try.params3] at hA hval hsz
  obtain ⟨v0, vs0, d0, ds0, p0, q0, hargs, rfl, rfl, h0, r0⟩ := trodAll_cons hA
  obtain ⟨v1, vs1, d1, ds1, p1, q1, rfl, rfl, rfl, h1, r1⟩ := trodAll_cons r0
  obtain ⟨v2, vs2, d2, ds2, p2, q2, rfl, rfl, rfl, h2, r2⟩ := trodAll_cons r1
  obtain ⟨v3, vs3, d3, ds3, p3, q3, rfl, rfl, rfl, h3, r3⟩ := trodAll_cons r2
  obtain ⟨v4, vs4, d4, ds4, p4, q4, rfl, rfl, rfl, h4, r4⟩ := trodAll_cons r3
  obtain ⟨rfl, rfl, rfl⟩ := trodAll_nil r4
  obtain rfl : args = #[v0, v1, v2, v3, v4] := by cases args; simp_all
  obtain ⟨rfl, rfl⟩ := trodVars_none hV
  have k0 := h0
  have lt0 : ∀ x ∈ p0, x.block < W.heap.size := by obtain ⟨m, hm⟩ := k0; exact DataW.trod_lt m _ _ _ hm
  have k1 := h1
  have lt1 : ∀ x ∈ p1, x.block < W.heap.size := by obtain ⟨m, hm⟩ := k1; exact DataW.trod_lt m _ _ _ hm
  have hw1 : ∀ m ∈ d1.weights Try.prog 22, m ≤ reachBytes := fun m hm => by simpa using List.all_eq_true.1 hsz _ (DataW.weights_mem_each (j := 1) (t := 22) rfl rfl m hm)
  have k2 := h2
  have lt2 : ∀ x ∈ p2, x.block < W.heap.size := by obtain ⟨m, hm⟩ := k2; exact DataW.trod_lt m _ _ _ hm
  have k3 := h3
  have lt3 : ∀ x ∈ p3, x.block < W.heap.size := by obtain ⟨m, hm⟩ := k3; exact DataW.trod_lt m _ _ _ hm
  have k4 := h4
  have lt4 : ∀ x ∈ p4, x.block < W.heap.size := by obtain ⟨m, hm⟩ := k4; exact DataW.trod_lt m _ _ _ hm
  obtain ⟨n0, rfl, _, _, wf0⟩ := open_int Try.underlying3 (hval 0 3 v0 rfl rfl) h0
  have hI0 := bounds_i64 wf0
  obtain ⟨es1, hR1, hB1, hL1⟩ := open_ways (okWide_slice Try.underlying22 (hval 1 22 v1 rfl rfl)) h1 hw1
  obtain ⟨n2, rfl, _, _, wf2⟩ := open_int Try.underlying3 (hval 2 3 v2 rfl rfl) h2
  have hI2 := bounds_i64 wf2
  obtain ⟨n3, rfl, _, _, wf3⟩ := open_int Try.underlying3 (hval 3 3 v3 rfl rfl) h3
  have hI3 := bounds_i64 wf3
  obtain ⟨n4, rfl, _, _, wf4⟩ := open_int Try.underlying3 (hval 4 3 v4 rfl rfl) h4
  have hI4 := bounds_i64 wf4
  clear hA0 hval0
  refine (walk n0 v1 es1 n2 n3 n4 W hI0 hR1 hB1 hL1 hI2 hI3 hI4).mono fun e W' ⟨he, bel⟩ => ?_
  subst he
  exact ⟨_, rfl, _, _, _, [], _, [], hW', trodAll_mk1 (shut_bool Try.underlying4 _), (trodAll_cons_mk (Below.trod laidOut (by kernel_rfl) (of_decide_eq_true (by kernel_rfl)) k0 bel lt0) (trodAll_cons_mk (Below.trod laidOut (by kernel_rfl) (of_decide_eq_true (by kernel_rfl)) k1 bel lt1) (trodAll_cons_mk (Below.trod laidOut (by kernel_rfl) (of_decide_eq_true (by kernel_rfl)) k2 bel lt2) (trodAll_cons_mk (Below.trod laidOut (by kernel_rfl) (of_decide_eq_true (by kernel_rfl)) k3 bel lt3) (trodAll_cons_mk (Below.trod laidOut (by kernel_rfl) (of_decide_eq_true (by kernel_rfl)) k4 bel lt4) trodAll_mk0))))), rfl, bel.frame _, fun h => by cases h⟩

theorem over : Rows.roundsAloneRow.holds Try.pinned (OpenSpec.ofChange Rows.roundsAloneSpec) :=
  OpenClaim.holds_of_wide 3 Try.f3 rfl rfl rfl rfl rfl rfl rfl ⟨rfl, rfl, rfl, rfl, rfl⟩ rfl rfl rfl rfl rfl (by kernel_rfl) Try.func3 (by kernel_rfl)
    (of_decide_eq_true (by kernel_rfl)) (by unfold Func.isWrapper; first | (rw [if_pos (by decide +kernel)]; kernel_rfl) | (rw [if_neg (by decide +kernel)]; exact ⟨rfl, rfl⟩))
    (fun os started H enc _ => lifted os started H enc)

/-- The statement. -/
theorem proved : Rows.RoundsAloneSaid := over
#print axioms proved
end Go.Proofs.Ytbmkgnlfccigpab.roundsAlone
