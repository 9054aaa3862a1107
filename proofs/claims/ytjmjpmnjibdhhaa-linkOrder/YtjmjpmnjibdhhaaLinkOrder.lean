/-
  Whatever mail is sent and whatever trips are made, lost, doubled or mixed, what is handed on is what was sent, from the beginning on, each once (the law LinkOrder returns true, and its arguments read as before); no condition.
-/
import Derived.Test.YtjmjpmnjibdhhaaPostMail
import Derived.Test.YtjmjpmnjibdhhaaLined
import Derived.Test.YtjmjpmnjibdhhaaTripCut
import Derived.Test.YtjmjpmnjibdhhaaKeepSame
import Derived.WalkKit
import Derived.ProofKit
import Derived.OpenShut
import Derived.ShutString
import Derived.SizedLaws
import Derived.ChangeOld
import Derived.Below
namespace Go.Proofs.Ytjmjpmnjibdhhaa.linkOrder
set_option maxRecDepth 100000
open Go.ChangeShapes Go.WideShapes Go.ChangeAt Go.RowKit

theorem own : ownKnob Try.prog.godebug = none := by kernel_rfl
theorem laidOut : laidOutB Try.prog = true := by kernel_rfl

set_option maxHeartbeats 1000000 in
set_option maxRecDepth 100000 in
theorem walk (v0 : Value) (es0 : List Ml) (v1 : Value) (es1 : List Ml) (w : World) (hR0 : MlR w v0 es0) (hB0 : ∀ x ∈ es0, mlB x) (hL0 : es0.length * 16 ≤ 140737488351232) (hR1 : MlR w v1 es1) (hB1 : ∀ x ∈ es1, mlB x) (hL1 : es1.length * 16 ≤ 140737488351232) :
    Calls Try.prog 8 #[v0, v1] w fun e w' => e = .returned (.bool true) ∧ Below w.heap.size w w' := by
  have _u := hR0
  clear _u
  have _u := hB0
  clear _u
  have _u := hL0
  clear _u
  have _u := hR1
  clear _u
  have _u := hB1
  clear _u
  have _u := hL1
  clear _u
  have HR : Hid (MlR w v0 es0) := hR0
  have HT : Hid (MlR w v1 es1) := hR1
  have HB0 : Hid (∀ x ∈ es0, mlB x) := hB0
  have HB1 : Hid (∀ x ∈ es1.take 60, mlB x) := fun x hx => hB1 x (List.mem_of_mem_take hx)
  obtain ⟨a, cap, rfl⟩ := hR0.shape
  obtain ⟨ta, tc, hta⟩ := hR1.shape
  subst hta
  have htc : es1.length ≤ tc := by obtain ⟨a', c', e', h1, _⟩ := hR1; injection e' with _ _ e3; subst e3; exact h1
  have hmc : tc ≤ 9223372036854775807 := by obtain ⟨a', c', e', _, h1, _⟩ := hR1; injection e' with _ _ e3; subst e3; unfold maxLen at h1; exact h1
  have CR : Hid (MlR w (cutP ta 0 (min es1.length 60) tc) (es1.take 60)) := by
    have h := reads_cutP (m := tc) HT.out (Nat.zero_le (min es1.length 60)) (by omega) (by omega) (Nat.le_refl _)
    rw [cut_first] at h; exact h
  have CUT : ∀ W, (Instr.slice 54 (.slice ta es1.length tc) none (some (.int .i64 (min (es1.length : Int) 60))) none).run Try.prog W = .ok (cutP ta 0 (min es1.length 60) tc) W := fun W => by
    have h := run_cutT ta es1.length tc (min es1.length 60) (by omega) W
    rwa [show ((min es1.length 60 : Nat) : Int) = min (es1.length : Int) 60 by omega] at h
  have htl : (es1.take 60).length ≤ 60 := by rw [List.length_take]; omega
  obtain ⟨xa, xn, xc, hcv⟩ : ∃ xa xn xc, cutP ta 0 (min es1.length 60) tc = .slice xa xn xc := ⟨_, _, _, rfl⟩
  rw [hcv] at CR CUT
  have HPL : Hid ((postN 12 es0).length ≤ 12) := postN_len 12 es0
  clear hR0 hR1 hB0 hB1 hcv HT
  generalize es1.take 60 = T at *
  go_enter Try.func8, Try.ntmps8
  go_wp2_with fail
  refine (posts_upto 12 (by omega) _ es0 _ HR.out HB0.out).mono ?_
  rintro e w1 ⟨v, rfl, ho1, hb1⟩
  obtain ⟨la, lc, rfl⟩ := (MlR.ownd ho1).shape
  have hlc : (postN 12 es0).length ≤ lc := by obtain ⟨a', c', e', h1, _⟩ := MlR.ownd ho1; injection e' with _ _ e3; subst e3; exact h1
  have R1 : Hid (MlR w1 (.slice la (postN 12 es0).length lc) (postN 12 es0)) := MlR.ownd ho1
  have B1 : Hid (Below w.heap.size w w1) := hb1
  have hs1 := hb1.size
  have hpl := HPL.out
  clear ho1 hb1
  generalize postN 12 es0 = L at *
  have HC : Hid (∀ X, MlR X (.slice la L.length lc) L → MlR X (.slice xa xn xc) T → Calls Try.prog 24 #[.slice la L.length lc, .slice xa xn xc, .int .i64 (0)] X (LinP X L (0))) := fun X h1 h2 => by
    have h := lined_any _ _ L T (0) X h1 h2 hpl htl (by omega) HB1.out
    exact h
  go_wp2_with fail
  refine (HC.out _ R1.out (CR.out.below B1.out (Nat.le_refl _))).mono ?_
  rintro e w2 ⟨b, k, vG, vS, rfl, hoG, hoS, ⟨hbk, hkn⟩, hdone, hb2⟩
  have B2 : Hid (Below w.heap.size w w2) := B1.out.trans (hb2.mono hs1)
  have hs2 := B2.out.size
  obtain ⟨ga, gc, rfl⟩ := (MlR.ownd hoG).shape
  obtain ⟨sa, sc, rfl⟩ := (MlR.ownd hoS).shape
  have RG : Hid (MlR w2 (.slice ga (L.take k).length gc) (L.take k)) := MlR.ownd hoG
  have RL : Hid (MlR w2 (.slice la L.length lc) L) := R1.out.below hb2 (Nat.le_refl _)
  have hgl : (L.take k).length ≤ L.length := by rw [List.length_take]; omega
  have hdl : (L.drop b).length ≤ L.length := by rw [List.length_drop]; omega
  have CUT2 : ∀ W, (Instr.slice 22 (.slice la L.length lc) none (some (.int .i64 ((L.take k).length : Int))) none).run Try.prog W = .ok (cutP la 0 (L.take k).length lc) W := run_cutU la L.length lc _ (by omega)
  have RC : Hid (MlR w2 (cutP la 0 (L.take k).length lc) (L.take k)) := by
    have h := reads_cutP (m := lc) RL.out (Nat.zero_le (L.take k).length) hgl (by omega) (Nat.le_refl _)
    have e1 : (L.drop 0).take ((L.take k).length - 0) = L.take k := by
      rw [List.drop_zero, Nat.sub_zero, List.length_take, Nat.min_eq_left hkn]
    rw [e1] at h; exact h
  obtain ⟨ua, un, uc, hcv⟩ : ∃ ua un uc, cutP la 0 (L.take k).length lc = .slice ua un uc := ⟨_, _, _, rfl⟩
  rw [hcv] at RC CUT2
  clear hoG hoS hb2 hcv CUT HC hdone hbk hkn
  generalize (L.drop b).length = dl at *
  have HS : Hid (∀ X, MlR X (.slice ga (L.take k).length gc) (L.take k) → MlR X (.slice ua un uc) (L.take k) → Calls Try.prog 25 #[.slice ga (L.take k).length gc, .slice ua un uc] X fun e w' => e = .returned (.bool true) ∧ Below X.heap.size X w') := fun X h1 h2 => sameMailK_yes _ _ _ X h1 h2
  generalize (L.take k).length = gl at *
  go_upto_region 3 with fail
  have N1 : BX 24 (w2.alloc (.cells #[.int .i64 1, .int .i64 (b : Int), .slice sa dl sc] 24)) w2.heap.size #[.int .i64 1, .int .i64 (b : Int), .slice sa dl sc] := BX.new _ _ _
  have b3 : Below w2.heap.size w2 (w2.alloc (.cells #[.int .i64 1, .int .i64 (b : Int), .slice sa dl sc] 24)) := below_alloc _ _
  generalize w2.alloc (.cells #[.int .i64 1, .int .i64 (b : Int), .slice sa dl sc] 24) = W3 at *
  have B3 : Hid (Below w.heap.size w W3) := B2.out.trans (b3.mono hs2)
  have RG3 : Hid (MlR W3 (.slice ga gl gc) (L.take k)) := RG.out.below b3 (Nat.le_refl _)
  have RC3 : Hid (MlR W3 (.slice ua un uc) (L.take k)) := RC.out.below b3 (Nat.le_refl _)
  obtain ⟨q0, q1, q2, _⟩ := N1.all3
  clear N1 b3 RG RC RL
  have d1 : ¬ (L.length : Int) < (gl : Int) := by omega
  have d2 : ¬ (L.length : Int) < (dl : Int) := by omega
  go_wp2_with fail
  refine (HS.out _ RG3.out RC3.out).mono ?_
  rintro e w4 ⟨rfl, hb4⟩
  have B4 : Hid (Below w.heap.size w w4) := B3.out.trans (hb4.mono B3.out.size)
  clear hb4
  go_wp2_with fail
  go_ret
  exact ⟨rfl, B4.out⟩

set_option maxHeartbeats 400000 in
set_option maxRecDepth 100000 in
theorem lifted (os : Os) (started : os.Started) (H : Type) (enc : TypeId × Value → H) :
    ReturnsInHanded {} Try.checked os 8 .any (Rows.linkOrderSpec.pre6 enc Try.prog Try.f8 Rows.linkOrderRow.domain false) (Rows.linkOrderSpec.post enc Try.prog Try.f8 false true false false) := by
  refine returnsInHanded_of_change_sized (C := Try.checked) own started (by kernel_rfl) Try.func8
    (ChangeSpec.witness6 (enc := enc) (C := Try.checked) false ⟨#[], #[.slice none 0 0, .slice none 0 0], []⟩ 8 (by kernel_rfl) (by kernel_rfl) (by kernel_rfl) (by kernel_rfl)) ?_
  intro W base args ds gs before hval0 hW _ hsz0 _
  have hval : ∀ (j : Nat) t v, Try.f8.params[j]? = some t → args[j]? = some v → Value.okWide Try.prog W .any base t v := hval0
  have hW' := hW
  obtain ⟨p, q, hA0, hV, rfl, hfz, hnd⟩ := hW
  have hA : DataW.TrodAll enc Try.prog W 0 (fun _ => true) true Try.f8.params.toList args.toList ds p := hA0
  have hsz : (DataW.weightsEach Try.prog (Try.f8.params.toList ++ Rows.linkOrderSpec.plain.varTypes Try.prog) (ds ++ gs)).all (fun x => decide (x ≤ reachBytes)) = true := hsz0
  rw [Try.params8] at hA hval hsz
  obtain ⟨v0, vs0, d0, ds0, p0, q0, hargs, rfl, rfl, h0, r0⟩ := trodAll_cons hA
  obtain ⟨v1, vs1, d1, ds1, p1, q1, rfl, rfl, rfl, h1, r1⟩ := trodAll_cons r0
  obtain ⟨rfl, rfl, rfl⟩ := trodAll_nil r1
  obtain rfl : args = #[v0, v1] := by cases args; simp_all
  obtain ⟨rfl, rfl⟩ := trodVars_none hV
  have k0 := h0
  have lt0 : ∀ x ∈ p0, x.block < W.heap.size := by obtain ⟨m, hm⟩ := k0; exact DataW.trod_lt m _ _ _ hm
  have hw0 : ∀ m ∈ d0.weights Try.prog 53, m ≤ reachBytes := fun m hm => by simpa using List.all_eq_true.1 hsz _ (DataW.weights_mem_each (j := 0) (t := 53) rfl rfl m hm)
  have k1 := h1
  have lt1 : ∀ x ∈ p1, x.block < W.heap.size := by obtain ⟨m, hm⟩ := k1; exact DataW.trod_lt m _ _ _ hm
  have hw1 : ∀ m ∈ d1.weights Try.prog 54, m ≤ reachBytes := fun m hm => by simpa using List.all_eq_true.1 hsz _ (DataW.weights_mem_each (j := 1) (t := 54) rfl rfl m hm)
  obtain ⟨es0, hR0, hB0, hL0⟩ := open_posts (okWide_slice Try.underlying53 (hval 0 53 v0 rfl rfl)) h0 hw0
  obtain ⟨es1, hR1, hB1, hL1⟩ := open_trips (okWide_slice Try.underlying54 (hval 1 54 v1 rfl rfl)) h1 hw1
  clear hA0 hval0
  refine (walk v0 es0 v1 es1 W hR0 hB0 hL0 hR1 hB1 hL1).mono fun e W' ⟨he, bel⟩ => ?_
  subst he
  exact ⟨_, rfl, _, _, _, [], _, [], hW', trodAll_mk1 (shut_bool Try.underlying4 _), (trodAll_cons_mk (Below.trod laidOut (by kernel_rfl) (of_decide_eq_true (by kernel_rfl)) k0 bel lt0) (trodAll_cons_mk (Below.trod laidOut (by kernel_rfl) (of_decide_eq_true (by kernel_rfl)) k1 bel lt1) trodAll_mk0)), rfl, bel.frame _, fun h => by cases h⟩

theorem over : Rows.linkOrderRow.holds Try.pinned (OpenSpec.ofChange Rows.linkOrderSpec) :=
  OpenClaim.holds_of_wide 8 Try.f8 rfl rfl rfl rfl rfl rfl rfl ⟨rfl, rfl, rfl, rfl, rfl⟩ rfl rfl rfl rfl rfl (by kernel_rfl) Try.func8 (by kernel_rfl)
    (of_decide_eq_true (by kernel_rfl)) (by unfold Func.isWrapper; first | (rw [if_pos (by decide +kernel)]; kernel_rfl) | (rw [if_neg (by decide +kernel)]; exact ⟨rfl, rfl⟩))
    (fun os started H enc _ => lifted os started H enc)

/-- The statement. -/
theorem proved : Rows.LinkOrderSaid := over
#print axioms proved
end Go.Proofs.Ytjmjpmnjibdhhaa.linkOrder
