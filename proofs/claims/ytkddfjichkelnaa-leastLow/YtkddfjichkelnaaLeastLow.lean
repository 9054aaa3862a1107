/-
  For every list of raw numbers: of mail in order merge.Least leaves, of each vertex's, just the least (the law LeastLow returns true, and its argument reads as before); no condition.
-/
import Derived.Test.YtkddfjichkelnaaKeepMail
import Derived.Test.YtkddfjichkelnaaLowMath
import Derived.Test.YtkddfjichkelnaaMergeFace
import Derived.WalkKit
import Derived.ProofKit
import Derived.OpenShut
import Derived.ShutString
import Derived.SizedLaws
import Derived.ChangeOld
import Derived.Below
import Derived.Deep.QuietTactic
import Derived.BigQuiet
import Derived.Lib.QuietBelow
namespace Go.Proofs.Ytkddfjichkelnaa.leastLow
set_option maxRecDepth 100000
open Go.ChangeShapes Go.WideShapes Go.ChangeAt Go.RowKit

theorem own : ownKnob Try.prog.godebug = none := by kernel_rfl
theorem laidOut : laidOutB Try.prog = true := by kernel_rfl
open Go.Sort
set_option maxHeartbeats 1000000 in
set_option maxRecDepth 100000 in
theorem walk (v0 : Value) (es0 : List Ml) (w : World) (hR0 : MlR w v0 es0) (hB0 : ∀ x ∈ es0, mlB x) (hL0 : es0.length * 16 ≤ 140737488351232) :
    Calls Try.prog 8 #[v0] w fun e w' => e = .returned (.bool true) ∧ Below w.heap.size w w' := by
  have _u := hR0
  clear _u
  have _u := hB0
  clear _u
  have _u := hL0
  clear _u
  have HR : Hid (MlR w v0 es0) := hR0
  have HPB : Hid (∀ x ∈ es0, mlB x) := hB0
  obtain ⟨a, cap, rfl, hcc, hcm, _, _⟩ := hR0
  unfold maxLen at hcm
  clear hB0
  go_enter Try.func8, Try.ntmps8
  go_wp2_with fail
  refine (posts_any _ es0 _ HR.out HPB.out).mono ?_
  rintro e w1 ⟨c, rfl, ho1, hb1⟩
  have C1 : Hid (MlR w1 c (postL es0)) := MlR.ownd ho1
  have B1 : Hid (Below w.heap.size w w1) := hb1
  have hl40 := postL_len es0
  have HPL : Hid ((postL es0).length = 0 ↔ es0.length = 0) := by
    show _ ↔ _
    unfold postL
    rw [List.length_map, List.length_take]
    omega
  obtain ⟨ca, cc, rfl⟩ := C1.out.shape
  have hs1 := hb1.size
  clear ho1 hb1
  generalize postL es0 = p at *
  go_wp2_with fail
  refine (sortedK_any _ p _ C1.out (by omega)).mono ?_
  rintro e w2 ⟨sa, sc, rfl, ho2, hb2⟩
  have S2 : Hid (MlR w2 (.slice sa (sortM p).length sc) (sortM p)) := MlR.ownd ho2
  have B2 : Hid (Below w.heap.size w w2) := B1.out.trans (hb2.mono hs1)
  have HSS : Hid (InM (sortM p)) := sortM_sorted p
  have HLN : Hid ((sortM p).length = p.length) := sortM_len p
  have hl2 : (sortM p).length ≤ 40 := by rw [sortM_len p]; exact hl40
  have hs2 := B2.out.size
  clear ho2 hb2 C1 B1
  generalize sortM p = l at *
  have HLE : Hid (∀ X, MlR X (.slice sa l.length sc) l → Calls Try.prog 17 #[.slice sa l.length sc] X (RefP X 0 (lowM l))) := fun X hX => by
    have := least_any _ l X hX
    rwa [show errL l = 0 by unfold errL; rw [if_neg (by omega), (srtMb_iff l).2 (in_srtM HSS.out), if_pos rfl]] at this
  have HONE : Hid (∀ x ∈ l, forT (lowM l) x.1 = 1) := fun x hx => low_for HSS.out hx
  have HLES : Hid (∀ x ∈ l, ∀ y ∈ lowM l, y.1 = x.1 → y.2 ≤ x.2) := fun x hx y hy => low_le HSS.out hy hx
  have HIN : Hid (∀ y ∈ lowM l, 0 < timesM l y) := fun y hy => timesM_pos (low_in hy)
  have HNIL : Hid ((lowM l).length = 0 ↔ es0.length = 0) := low_nil.trans (by rw [HLN.out]; exact HPL.out)
  have hf40 : (lowM l).length ≤ 40 := by have := lowT_len l l.length; unfold lowM; omega
  generalize lowM l = few at *
  go_wp2_with fail
  refine (HLE.out _ S2.out).mono ?_
  rintro e w3 h3
  obtain ⟨fa, fn, fc, rfl, hr3, _, hb3⟩ := h3.reads
  rw [okL_yes] at hr3
  obtain rfl : few.length = fn := by
    obtain ⟨_, _, e, _⟩ := hr3
    injection e with _ e _
    exact e.symm
  have F3 : Hid (MlR w3 (.slice fa few.length fc) few) := hr3
  have S3 : Hid (MlR w3 (.slice sa l.length sc) l) := S2.out.below hb3 (Nat.le_refl _)
  have B3 : Hid (Below w.heap.size w w3) := B2.out.trans (hb3.mono hs2)
  have hs3 := B3.out.size
  obtain ⟨bb, r1, r2⟩ : ∃ bb, ((few.length : Int) == 0) = bb ∧ ((es0.length : Int) == 0) = bb := by
    by_cases h : es0.length = 0
    · exact ⟨true, by have := HNIL.out.2 h; simp; exact List.eq_nil_of_length_eq_zero this, by simp; exact List.eq_nil_of_length_eq_zero h⟩
    · have h2 : few.length ≠ 0 := fun h2 => h (HNIL.out.1 h2)
      exact ⟨false, by simp; intro h3; apply h2; rw [h3]; rfl, by simp; intro h3; apply h; rw [h3]; rfl⟩
  have r3 : (bb != bb) = false := by simp
  clear h3 hr3 hb3 S2 B2 HLE HNIL HPL HLN HSS
  go_wp2_with fail
  go_loopw [7] (fun i wr => ∃ k : Nat, k ≤ l.length ∧ i = .int .i64 k ∧ Below w3.heap.size w3 wr) (fun i _ => l.length - (intOf i).toNat)
  case atStart => exact ⟨0, by omega, rfl, Below.refl _ _⟩
  case round =>
    obtain ⟨i, hi, rfl, hbel⟩ := hrel
    have HB : Hid (Below w3.heap.size w3 wr) := hbel
    have hsr := hbel.size
    clear hbel
    by_cases hlt : i < l.length
    · obtain ⟨x, hx⟩ := getX hlt
      have HXI : Hid (l[i]? = some x) := hx
      have HXL : Hid (x ∈ l) := List.mem_of_getElem? hx
      have p0 : (0 : Int) ≤ (i : Int) := by omega
      have p1 : (i : Int) < (l.length : Int) := by omega
      clear hx
      go_wp2_with fail
      go_loopw [8, 9] (fun m j wq => ∃ k : Nat, k ≤ few.length ∧ j = .int .i64 k ∧ m = .int .i64 (forT (few.take k) x.1 : Nat) ∧ Below w3.heap.size w3 wq) (fun _ j _ => few.length - (intOf j).toNat)
      case atStart => exact ⟨0, by omega, rfl, rfl, HB.out⟩
      case round =>
        obtain ⟨k, hk, rfl, rfl, hbq⟩ := hrel
        have HBQ : Hid (Below w3.heap.size w3 wr) := hbq
        have hsq := hbq.size
        have hft : forT (few.take k) x.1 ≤ k := by
          have := forT_le (few.take k) x.1
          rw [List.length_take] at this
          omega
        clear hbq
        by_cases hkl : k < few.length
        · have SR : Hid (MlR wr (.slice sa l.length sc) l) := S3.out.below HBQ.out (Nat.le_refl _)
          have FR : Hid (MlR wr (.slice fa few.length fc) few) := F3.out.below HBQ.out (Nat.le_refl _)
          obtain ⟨b, off, cap', e1, _, _, lb, hv⟩ := MlR.at SR.out (by omega)
          injection e1 with e1 _ e3
          subst e1 e3
          obtain ⟨b2, off2, cap2, e1, _, _, lb2, hv2⟩ := MlR.at FR.out (by omega)
          injection e1 with e1 _ e3
          subst e1 e3
          obtain ⟨y, hy⟩ := getX hkl
          obtain ⟨c1, c2⟩ := hv i x HXI.out
          obtain ⟨d1, d2⟩ := hv2 k y hy
          have HYF : Hid (y ∈ few) := List.mem_of_getElem? hy
          have HFT : Hid (forT (few.take (k + 1)) x.1 = forT (few.take k) x.1 + (if y.1 = x.1 then 1 else 0)) := forT_take hy
          have q0 : (0 : Int) ≤ (k : Int) := by omega
          have q1 : (k : Int) < (few.length : Int) := by omega
          clear hv hv2 hy
          generalize forT (few.take k) x.1 = t at *
          by_cases hyx : y.1 = x.1
          · have HF2 : Hid (forT (few.take (k + 1)) x.1 = t + 1) := by show _ = _; rw [HFT.out, if_pos hyx]
            have z1 : (y.1 == x.1) = true := by simpa using hyx
            have z2 : ¬ y.2 > x.2 := by have := HLES.out x HXL.out y HYF.out hyx; omega
            have htm := HIN.out y HYF.out
            have htl := timesM_le l y
            have EE : ∀ W, Below wr.heap.size wr W → ∀ d os, Calls Try.prog 21 #[.slice (some ⟨b, off, none⟩) l.length sc, .agg #[.int .i64 y.1, .int .i64 y.2]] (grow (redrawn W d) os) fun e w'' => e = .returned (.int .i64 (timesM l y : Nat)) ∧ ∃ p : Regrown, w'' = grow (redrawn W p.d) p.os := fun W hW d os => Calls.regrown_of (times_any _ l y _ ((SR.out.below hW (Nat.le_refl _)).below (below_regrown W d os) (Nat.le_refl _)))
            have HEE : Hid (∀ W, Below wr.heap.size wr W → ∀ d os, Calls Try.prog 21 #[.slice (some ⟨b, off, none⟩) l.length sc, .agg #[.int .i64 y.1, .int .i64 y.2]] (grow (redrawn W d) os) fun e w'' => e = .returned (.int .i64 (timesM l y : Nat)) ∧ ∃ p : Regrown, w'' = grow (redrawn W p.d) p.os) := EE
            clear EE
            generalize timesM l y = tm at *
            have z3 : (((tm : Nat) : Int) == 0) = false := by simp; omega
            clear hyx HFT htl
            go_wp2_with fail
            go_quiet (fail)
            have HB5 : Hid (Below wr.heap.size wr (wr.drewN nq)) := below_drewN (Below.refl _ _) nq
            have c1' : (wr.drewN nq).cell? ⟨b, off + i * 2, none⟩ = some (.int .i64 x.1) := c1
            have c2' : (wr.drewN nq).cell? ⟨b, off + i * 2 + 1, none⟩ = some (.int .i64 x.2) := c2
            have d1' : (wr.drewN nq).cell? ⟨b2, off2 + k * 2, none⟩ = some (.int .i64 y.1) := d1
            have d2' : (wr.drewN nq).cell? ⟨b2, off2 + k * 2 + 1, none⟩ = some (.int .i64 y.2) := d2
            clear c1 c2 d1 d2
            generalize wr.drewN nq = w5 at *
            have g1 := cell_regrown c1'
            have g2 := cell_regrown c2'
            have g3 := cell_regrown d1'
            have g4 := cell_regrown d2'
            have EE := HEE.out w5 HB5.out
            clear c1' c2' d1' d2'
            go_wp2_with fail
            refine wp_region_quiet_below (by kernel_rfl) (by kernel_rfl) ?_
            repeat (quiet_step (exact EE _ _))
            refine wpQuiet_nil ?_
            intro _ hw'
            obtain ⟨⟨dq, osq⟩, hw''⟩ := hw'
            have HB9 : Hid (Below w3.heap.size w3 (grow (redrawn w5 dq) osq)) := HBQ.out.trans ((HB5.out.trans ((below_regrown w5 dq osq).mono HB5.out.size)).mono hsq)
            subst hw''
            generalize grow (redrawn w5 dq) osq = W9 at HB9 ⊢
            clear g1 g2 g3 g4 EE
            go_wp2_with fail
            go_roundw
            case rel => exact ⟨k + 1, by omega, by go_num, by rw [HF2.out]; go_num, HB9.out⟩
            case measure => simp [intOf]; omega
          · have HF2 : Hid (forT (few.take (k + 1)) x.1 = t) := by show _ = _; rw [HFT.out, if_neg hyx]; rfl
            have z1 : (y.1 == x.1) = false := by simpa using hyx
            clear hyx HFT
            go_wp2_with fail
            go_quiet (fail)
            go_wp2_with fail
            go_roundw
            case rel => exact ⟨k + 1, by omega, by go_num, by rw [HF2.out], below_drewN HBQ.out _⟩
            case measure => simp [intOf]; omega
        · have ek : few.take k = few := List.take_of_length_le (by omega)
          have e1 : forT (few.take k) x.1 = 1 := by rw [ek]; exact HONE.out x HXL.out
          rw [e1]
          clear ek e1 hft
          go_wp2_with fail
          go_roundw
          case rel => exact ⟨i + 1, by omega, by go_num, HBQ.out⟩
          case measure => simp [intOf]; omega
    · go_wp2_with fail
      go_ret
      exact ⟨rfl, B3.out.trans (HB.out.mono hs3)⟩

set_option maxHeartbeats 400000 in
set_option maxRecDepth 100000 in
theorem lifted (os : Os) (started : os.Started) (H : Type) (enc : TypeId × Value → H) :
    ReturnsInHanded {} Try.checked os 8 .any (Rows.leastLowSpec.pre6 enc Try.prog Try.f8 Rows.leastLowRow.domain false) (Rows.leastLowSpec.post enc Try.prog Try.f8 false true false false) := by
  refine returnsInHanded_of_change_sized (C := Try.checked) own started (by kernel_rfl) Try.func8
    (ChangeSpec.witness6 (enc := enc) (C := Try.checked) false ⟨#[], #[.slice none 0 0], []⟩ 8 (by kernel_rfl) (by kernel_rfl) (by kernel_rfl) (by kernel_rfl)) ?_
  intro W base args ds gs before hval0 hW _ hsz0 _
  have hval : ∀ (j : Nat) t v, Try.f8.params[j]? = some t → args[j]? = some v → Value.okWide Try.prog W .any base t v := hval0
  have hW' := hW
  obtain ⟨p, q, hA0, hV, rfl, hfz, hnd⟩ := hW
  have hA : DataW.TrodAll enc Try.prog W 0 (fun _ => true) true Try.f8.params.toList args.toList ds p := hA0
  have hsz : (DataW.weightsEach Try.prog (Try.f8.params.toList ++ Rows.leastLowSpec.plain.varTypes Try.prog) (ds ++ gs)).all (fun x => decide (x ≤ reachBytes)) = true := hsz0
  rw [Try.params8] at hA hval hsz
  obtain ⟨v0, vs0, d0, ds0, p0, q0, hargs, rfl, rfl, h0, r0⟩ := trodAll_cons hA
  obtain ⟨rfl, rfl, rfl⟩ := trodAll_nil r0
  obtain rfl : args = #[v0] := by cases args; simp_all
  obtain ⟨rfl, rfl⟩ := trodVars_none hV
  have k0 := h0
  have lt0 : ∀ x ∈ p0, x.block < W.heap.size := by obtain ⟨m, hm⟩ := k0; exact DataW.trod_lt m _ _ _ hm
  have hw0 : ∀ m ∈ d0.weights Try.prog 34, m ≤ reachBytes := fun m hm => by simpa using List.all_eq_true.1 hsz _ (DataW.weights_mem_each (j := 0) (t := 34) rfl rfl m hm)
  obtain ⟨es0, hR0, hB0, hL0⟩ := open_posts (okWide_slice Try.underlying34 (hval 0 34 v0 rfl rfl)) h0 hw0
  clear hA0 hval0
  refine (walk v0 es0 W hR0 hB0 hL0).mono fun e W' ⟨he, bel⟩ => ?_
  subst he
  exact ⟨_, rfl, _, _, _, [], _, [], hW', trodAll_mk1 (shut_bool Try.underlying4 _), (trodAll_cons_mk (Below.trod laidOut (by kernel_rfl) (of_decide_eq_true (by kernel_rfl)) k0 bel lt0) trodAll_mk0), rfl, bel.frame _, fun h => by cases h⟩

theorem over : Rows.leastLowRow.holds Try.pinned (OpenSpec.ofChange Rows.leastLowSpec) :=
  OpenClaim.holds_of_wide 8 Try.f8 rfl rfl rfl rfl rfl rfl rfl ⟨rfl, rfl, rfl, rfl, rfl⟩ rfl rfl rfl rfl rfl (by kernel_rfl) Try.func8 (by kernel_rfl)
    (of_decide_eq_true (by kernel_rfl)) (by unfold Func.isWrapper; first | (rw [if_pos (by decide +kernel)]; kernel_rfl) | (rw [if_neg (by decide +kernel)]; exact ⟨rfl, rfl⟩))
    (fun os started H enc _ => lifted os started H enc)

/-- The statement. -/
theorem proved : Rows.LeastLowSaid := over
#print axioms proved
end Go.Proofs.Ytkddfjichkelnaa.leastLow
