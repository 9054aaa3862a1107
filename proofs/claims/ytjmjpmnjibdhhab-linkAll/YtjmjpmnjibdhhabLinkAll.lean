/-
  Whatever mail is sent and whatever trips were made ahead of it, when packets and acks come again and again all of it is handed on, and nothing waits (the law LinkAll returns true, and its arguments read as before); no condition.
-/
import Derived.Test.YtjmjpmnjibdhhabPostMail
import Derived.Test.YtjmjpmnjibdhhabLined
import Derived.Test.YtjmjpmnjibdhhabTripCut
import Derived.Test.YtjmjpmnjibdhhabKeepSame
import Derived.WalkKit
import Derived.ProofKit
import Derived.OpenShut
import Derived.ShutString
import Derived.SizedLaws
import Derived.ChangeOld
import Derived.Below
namespace Go.Proofs.Ytjmjpmnjibdhhab.linkAll
set_option maxRecDepth 100000
open Go.ChangeShapes Go.WideShapes Go.ChangeAt Go.RowKit

theorem own : ownKnob Try.prog.godebug = none := by kernel_rfl
theorem laidOut : laidOutB Try.prog = true := by kernel_rfl

set_option maxHeartbeats 1000000 in
set_option maxRecDepth 100000 in
theorem walk (v0 : Value) (es0 : List Ml) (v1 : Value) (es1 : List Ml) (w : World) (hR0 : MlR w v0 es0) (hB0 : ∀ x ∈ es0, mlB x) (hL0 : es0.length * 16 ≤ 140737488351232) (hR1 : MlR w v1 es1) (hB1 : ∀ x ∈ es1, mlB x) (hL1 : es1.length * 16 ≤ 140737488351232) :
    Calls Try.prog 3 #[v0, v1] w fun e w' => e = .returned (.bool true) ∧ Below w.heap.size w w' := by
  have _u := hR0
  clear _u
  have _u := hB0
  clear _u
  have _u := hL0
  clear _u
  have _u := hR1
  clear _u
  have _u := hB1
  clear _u
  have _u := hL1
  clear _u
  have HR : Hid (MlR w v0 es0) := hR0
  have HT : Hid (MlR w v1 es1) := hR1
  have HB0 : Hid (∀ x ∈ es0, mlB x) := hB0
  have HB1 : Hid (∀ x ∈ es1.take 40, mlB x) := fun x hx => hB1 x (List.mem_of_mem_take hx)
  obtain ⟨a, cap, rfl⟩ := hR0.shape
  obtain ⟨ta, tc, hta⟩ := hR1.shape
  subst hta
  have htc : es1.length ≤ tc := by obtain ⟨a', c', e', h1, _⟩ := hR1; injection e' with _ _ e3; subst e3; exact h1
  have hmc : tc ≤ 9223372036854775807 := by obtain ⟨a', c', e', _, h1, _⟩ := hR1; injection e' with _ _ e3; subst e3; unfold maxLen at h1; exact h1
  have CR : Hid (MlR w (cutP ta 0 (min es1.length 40) tc) (es1.take 40)) := by
    have h := reads_cutP (m := tc) HT.out (Nat.zero_le (min es1.length 40)) (by omega) (by omega) (Nat.le_refl _)
    rw [cut_first] at h; exact h
  have CUT : ∀ W, (Instr.slice 23 (.slice ta es1.length tc) none (some (.int .i64 (min (es1.length : Int) 40))) none).run Try.prog W = .ok (cutP ta 0 (min es1.length 40) tc) W := fun W => by
    have h := run_cutT ta es1.length tc (min es1.length 40) (by omega) W
    rwa [show ((min es1.length 40 : Nat) : Int) = min (es1.length : Int) 40 by omega] at h
  have htl : (es1.take 40).length ≤ 60 := by rw [List.length_take]; omega
  obtain ⟨xa, xn, xc, hcv⟩ : ∃ xa xn xc, cutP ta 0 (min es1.length 40) tc = .slice xa xn xc := ⟨_, _, _, rfl⟩
  rw [hcv] at CR CUT
  have HPL : Hid ((postN 12 es0).length ≤ 12) := postN_len 12 es0
  clear hR0 hR1 hB0 hB1 hcv HT
  generalize es1.take 40 = T at *
  go_enter Try.func3, Try.ntmps3
  go_wp2_with fail
  refine (posts_upto 12 (by omega) _ es0 _ HR.out HB0.out).mono ?_
  rintro e w1 ⟨v, rfl, ho1, hb1⟩
  obtain ⟨la, lc, rfl⟩ := (MlR.ownd ho1).shape
  have hlc : (postN 12 es0).length ≤ lc := by obtain ⟨a', c', e', h1, _⟩ := MlR.ownd ho1; injection e' with _ _ e3; subst e3; exact h1
  have R1 : Hid (MlR w1 (.slice la (postN 12 es0).length lc) (postN 12 es0)) := MlR.ownd ho1
  have B1 : Hid (Below w.heap.size w w1) := hb1
  have hs1 := hb1.size
  have hpl := HPL.out
  clear ho1 hb1
  generalize postN 12 es0 = L at *
  have HC : Hid (∀ X, MlR X (.slice la L.length lc) L → MlR X (.slice xa xn xc) T → Calls Try.prog 6 #[.slice la L.length lc, .slice xa xn xc, .int .i64 (3 * ((L.length : Int) + 2))] X (LinP X L (3 * (L.length + 2)))) := fun X h1 h2 => by
    have h := lined_any _ _ L T (3 * (L.length + 2)) X h1 h2 hpl htl (by omega) HB1.out
    rwa [show ((3 * (L.length + 2) : Nat) : Int) = 3 * ((L.length : Int) + 2) by omega] at h
  go_wp2_with fail
  refine (HC.out _ R1.out (CR.out.below B1.out (Nat.le_refl _))).mono ?_
  rintro e w2 ⟨b, k, vG, vS, rfl, hoG, hoS, ⟨hbk, hkn⟩, hdone, hb2⟩
  have B2 : Hid (Below w.heap.size w w2) := B1.out.trans (hb2.mono hs1)
  have hs2 := B2.out.size
  obtain ⟨ga, gc, rfl⟩ := (MlR.ownd hoG).shape
  obtain ⟨sa, sc, rfl⟩ := (MlR.ownd hoS).shape
  have RG : Hid (MlR w2 (.slice ga (L.take k).length gc) (L.take k)) := MlR.ownd hoG
  have RL : Hid (MlR w2 (.slice la L.length lc) L) := R1.out.below hb2 (Nat.le_refl _)
  have ebn : b = L.length := by have := hdone (Nat.le_refl _); omega
  have ekn : k = L.length := by omega
  subst ebn
  subst ekn
  have e1 : L.take L.length = L := List.take_of_length_le (Nat.le_refl _)
  have e2 : (L.drop L.length).length = 0 := by simp
  rw [e1] at RG hoG
  have HS : Hid (∀ X, MlR X (.slice ga L.length gc) L → MlR X (.slice la L.length lc) L → Calls Try.prog 7 #[.slice ga L.length gc, .slice la L.length lc] X fun e w' => e = .returned (.bool true) ∧ Below X.heap.size X w') := fun X h1 h2 => sameMailK_yes _ _ _ X h1 h2
  rw [e1, e2]
  have d1 : ((L.length : Int) == (L.length : Int)) = true := by simp
  have d2 : ((0 : Int) == 0) = true := by simp
  clear hoG hoS hb2 CUT HC hdone hbk hkn e1 e2
  go_upto_region 3 with fail
  have N1 : BX 27 (w2.alloc (.cells #[.int .i64 1, .int .i64 (L.length : Int), .slice sa 0 sc] 27)) w2.heap.size #[.int .i64 1, .int .i64 (L.length : Int), .slice sa 0 sc] := BX.new _ _ _
  have b3 : Below w2.heap.size w2 (w2.alloc (.cells #[.int .i64 1, .int .i64 (L.length : Int), .slice sa 0 sc] 27)) := below_alloc _ _
  generalize w2.alloc (.cells #[.int .i64 1, .int .i64 (L.length : Int), .slice sa 0 sc] 27) = W3 at *
  have B3 : Hid (Below w.heap.size w W3) := B2.out.trans (b3.mono hs2)
  have RG3 : Hid (MlR W3 (.slice ga L.length gc) L) := RG.out.below b3 (Nat.le_refl _)
  have RL3 : Hid (MlR W3 (.slice la L.length lc) L) := RL.out.below b3 (Nat.le_refl _)
  have SX : Hid (BX 27 W3 w2.heap.size #[.int .i64 1, .int .i64 (L.length : Int), .slice sa 0 sc]) := N1
  have hs3 := N1.lt
  clear N1 b3 RG RL
  go_wp2_with fail
  refine (HS.out _ RG3.out RL3.out).mono ?_
  rintro e w4 ⟨rfl, hb4⟩
  have B4 : Hid (Below w.heap.size w w4) := B3.out.trans (hb4.mono B3.out.size)
  obtain ⟨q0, q1, q2, _⟩ := (SX.out.below hb4 hs3).all3
  clear hb4
  go_wp2_with fail
  go_ret
  exact ⟨rfl, B4.out⟩

set_option maxHeartbeats 400000 in
set_option maxRecDepth 100000 in
theorem lifted (os : Os) (started : os.Started) (H : Type) (enc : TypeId × Value → H) :
    ReturnsInHanded {} Try.checked os 3 .any (Rows.linkAllSpec.pre6 enc Try.prog Try.f3 Rows.linkAllRow.domain false) (Rows.linkAllSpec.post enc Try.prog Try.f3 false true false false) := by
  refine returnsInHanded_of_change_sized (C := Try.checked) own started (by kernel_rfl) Try.func3
    (ChangeSpec.witness6 (enc := enc) (C := Try.checked) false ⟨#[], #[.slice none 0 0, .slice none 0 0], []⟩ 8 (by kernel_rfl) (by kernel_rfl) (by kernel_rfl) (by kernel_rfl)) ?_
  intro W base args ds gs before hval0 hW _ hsz0 _
  have hval : ∀ (j : Nat) t v, Try.f3.params[j]? = some t → args[j]? = some v → Value.okWide Try.prog W .any base t v := hval0
  have hW' := hW
  obtain ⟨p, q, hA0, hV, rfl, hfz, hnd⟩ := hW
  have hA : DataW.TrodAll enc Try.prog W 0 (fun _ => true) true Try.f3.params.toList args.toList ds p := hA0
  have hsz : (DataW.weightsEach Try.prog (Try.f3.params.toList ++ Rows.linkAllSpec.plain.varTypes Try.prog) (ds ++ gs)).all (fun x => decide (x ≤ reachBytes)) = true := hsz0
  rw [Try.params3] at hA hval hsz
  obtain ⟨v0, vs0, d0, ds0, p0, q0, hargs, rfl, rfl, h0, r0⟩ := trodAll_cons hA
  obtain ⟨v1, vs1, d1, ds1, p1, q1, rfl, rfl, rfl, h1, r1⟩ := trodAll_cons r0
  obtain ⟨rfl, rfl, rfl⟩ := trodAll_nil r1
  obtain rfl : args = #[v0, v1] := by cases args; simp_all
  obtain ⟨rfl, rfl⟩ := trodVars_none hV
  have k0 := h0
  have lt0 : ∀ x ∈ p0, x.block < W.heap.size := by obtain ⟨m, hm⟩ := k0; exact DataW.trod_lt m _ _ _ hm
  have hw0 : ∀ m ∈ d0.weights Try.prog 22, m ≤ reachBytes := fun m hm => by simpa using List.all_eq_true.1 hsz _ (DataW.weights_mem_each (j := 0) (t := 22) rfl rfl m hm)
  have k1 := h1
  have lt1 : ∀ x ∈ p1, x.block < W.heap.size := by obtain ⟨m, hm⟩ := k1; exact DataW.trod_lt m _ _ _ hm
  have hw1 : ∀ m ∈ d1.weights Try.prog 23, m ≤ reachBytes := fun m hm => by simpa using List.all_eq_true.1 hsz _ (DataW.weights_mem_each (j := 1) (t := 23) rfl rfl m hm)
  obtain ⟨es0, hR0, hB0, hL0⟩ := open_posts (okWide_slice Try.underlying22 (hval 0 22 v0 rfl rfl)) h0 hw0
  obtain ⟨es1, hR1, hB1, hL1⟩ := open_trips (okWide_slice Try.underlying23 (hval 1 23 v1 rfl rfl)) h1 hw1
  clear hA0 hval0
  refine (walk v0 es0 v1 es1 W hR0 hB0 hL0 hR1 hB1 hL1).mono fun e W' ⟨he, bel⟩ => ?_
  subst he
  exact ⟨_, rfl, _, _, _, [], _, [], hW', trodAll_mk1 (shut_bool Try.underlying4 _), (trodAll_cons_mk (Below.trod laidOut (by kernel_rfl) (of_decide_eq_true (by kernel_rfl)) k0 bel lt0) (trodAll_cons_mk (Below.trod laidOut (by kernel_rfl) (of_decide_eq_true (by kernel_rfl)) k1 bel lt1) trodAll_mk0)), rfl, bel.frame _, fun h => by cases h⟩

theorem over : Rows.linkAllRow.holds Try.pinned (OpenSpec.ofChange Rows.linkAllSpec) :=
  OpenClaim.holds_of_wide 3 Try.f3 rfl rfl rfl rfl rfl rfl rfl ⟨rfl, rfl, rfl, rfl, rfl⟩ rfl rfl rfl rfl rfl (by kernel_rfl) Try.func3 (by kernel_rfl)
    (of_decide_eq_true (by kernel_rfl)) (by unfold Func.isWrapper; first | (rw [if_pos (by decide +kernel)]; kernel_rfl) | (rw [if_neg (by decide +kernel)]; exact ⟨rfl, rfl⟩))
    (fun os started H enc _ => lifted os started H enc)

/-- The statement. -/
theorem proved : Rows.LinkAllSaid := over
#print axioms proved
end Go.Proofs.Ytjmjpmnjibdhhab.linkAll
