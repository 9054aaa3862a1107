/-
  For every vertex, value, mail and freshness a label that Wake of Strong gives in the phase Back is the colour, is given just where it is heard, and stays (the law ProgLabel returns true, and its arguments read as before); no condition.
-/
import Derived.Test.YtokbfgopemgbcaaKeepLabel
import Derived.Test.YtokbfgopemgbcaaIntsOpen
import Derived.WalkKit
import Derived.ProofKit
import Derived.OpenShut
import Derived.ShutString
import Derived.SizedLaws
import Derived.ChangeOld
import Derived.Below
import Derived.Deep.QuietTactic
import Derived.BigQuiet
import Derived.Lib.QuietBelow
namespace Go.Proofs.Ytokbfgopemgbcaa.progLabel
set_option maxRecDepth 100000
open Go.ChangeShapes Go.WideShapes Go.ChangeAt Go.RowKit

theorem own : ownKnob Try.prog.godebug = none := by kernel_rfl
theorem laidOut : laidOutB Try.prog = true := by kernel_rfl

set_option maxHeartbeats 4000000 in
set_option maxRecDepth 100000 in
theorem walk (n0 : Int) (n1 : Int) (v2 : Value) (ns2 : List Int) (t3 : Bool) (w : World) (hI0 : -9223372036854775808 ≤ n0 ∧ n0 ≤ 9223372036854775807) (hI1 : -9223372036854775808 ≤ n1 ∧ n1 ≤ 9223372036854775807) (hR2 : InR w v2 ns2) (hB2 : ∀ x ∈ ns2, i64B x) (hL2 : ns2.length * 8 ≤ 140737488351232) :
    Calls Try.prog 8 #[.int .i64 n0, .int .i64 n1, v2, .bool t3] w fun e w' => e = .returned (.bool true) ∧ Below w.heap.size w w' := by
  have _u := hI0
  clear _u
  have _u := hI1
  clear _u
  have _u := hR2
  clear _u
  have _u := hB2
  clear _u
  have _u := hL2
  clear _u
  have HR : Hid (InR w v2 ns2) := hR2
  have HBD : Hid (∀ x ∈ ns2, i64B x) := hB2
  obtain ⟨va, vc, rfl, hca, hma, _, _⟩ := hR2
  unfold maxLen at hma
  obtain ⟨k0, k1⟩ := hI0
  obtain ⟨o0, o1⟩ := hI1
  have CK : Hid (∀ X, Calls Try.prog 17 #[.int .i64 n0, .int .i64 20] X fun e w' => e = .returned (.int .i64 (pickF n0 20)) ∧ w' = X) := fun X => picked_any n0 20 X k0 k1 (by decide) (by decide)
  have CO : Hid (∀ X, Calls Try.prog 17 #[.int .i64 n1, .int .i64 20] X fun e w' => e = .returned (.int .i64 (pickF n1 20)) ∧ w' = X) := fun X => picked_any n1 20 X o0 o1 (by decide) (by decide)
  have CV : Hid (∀ X, InR X (.slice va ns2.length vc) ns2 → Calls Try.prog 18 #[.slice va ns2.length vc] X fun e w' => ∃ v, e = .returned v ∧ InR w' v (valL ns2) ∧ Below X.heap.size X w') := fun X hX => (values_any _ ns2 X hX HBD.out).mono (fun e w' ⟨v, h1, h2, h3⟩ => ⟨v, h1, RowK.own encI_len h2, h3⟩)
  have bv := pickF_bd n0 20 (by decide)
  have ba := pickF_bd n1 20 (by decide)
  have HML : Hid (∀ y ∈ valL ns2, 0 ≤ y ∧ y < 20) := valL_bd
  generalize pickF n0 20 = pv at *
  generalize pickF n1 20 = a at *
  generalize hmm : valL ns2 = m at *
  clear hmm
  have CW0 := fun X v (hX : InR X v m) => wake_any 3 pv 0 (a, -1) 1 t3 m v X hX
  rw [wake_label bv ba HML.out] at CW0
  have CX0 := fun X v (hX : InR X v m) => wake_any 3 pv 0 (a, a) 1 t3 m v X hX
  rw [wake_again bv ba HML.out] at CX0
  obtain ⟨H, hH⟩ : ∃ H, hereB t3 (a, -1) pv m = H := ⟨_, rfl⟩
  have HH : Hid (hereB t3 (a, -1) pv m = H) := hH
  rw [hH] at CW0
  unfold WakP at CW0 CX0
  have CW : Hid (∀ X v, InR X v m → Calls Try.prog 10 #[.int .i64 3, .int .i64 pv, .int .i64 0, .agg #[.int .i64 a, .int .i64 (-1)], .int .i64 1, .bool t3, v] X fun e w' => e = .returned (.tuple #[.agg #[.int .i64 a, .int .i64 (if H then a else -1)], .bool H, .int .i64 0]) ∧ Below X.heap.size X w') := CW0
  have CX : Hid (∀ X v, InR X v m → Calls Try.prog 10 #[.int .i64 3, .int .i64 pv, .int .i64 0, .agg #[.int .i64 a, .int .i64 a], .int .i64 1, .bool t3, v] X fun e w' => e = .returned (.tuple #[.agg #[.int .i64 a, .int .i64 a], .bool false, .int .i64 0]) ∧ Below X.heap.size X w') := CX0
  have daa : (a == a) = true := by simp
  have dan : (a != a) = false := by simp
  have dna : (-1 == a) = false := by simp only [beq_eq_false_iff_ne]; omega
  obtain ⟨yl, hyl⟩ : ∃ yl, (if H then a else -1) = yl := ⟨_, rfl⟩
  rw [hyl] at CW
  have HYL : Hid ((if H then a else -1) = yl) := hyl
  clear CW0 CX0 hH hyl bv ba k0 k1 o0 o1 hB2 hL2
  go_enter Try.func8, Try.ntmps8
  go_wp2_with fail
  refine (CK.out _).mono ?_
  rintro e w1 ⟨rfl, hw⟩
  replace hw := hw.symm
  subst hw
  go_wp2_with fail
  refine (CO.out _).mono ?_
  rintro e w1 ⟨rfl, hw⟩
  replace hw := hw.symm
  subst hw
  go_upto_region 3 with fail
  have N1 : Hid (BX 23 (w.alloc (.cells #[.int .i64 a, .int .i64 (-1)] 23)) w.heap.size #[.int .i64 a, .int .i64 (-1)]) := BX.new _ _ _
  have A1 : Hid (Below w.heap.size w (w.alloc (.cells #[.int .i64 a, .int .i64 (-1)] 23))) := below_alloc _ _
  generalize w.alloc (.cells #[.int .i64 a, .int .i64 (-1)] 23) = W1 at *
  have HK : Hid (∀ X, Below W1.heap.size W1 X → BX 23 X w.heap.size #[.int .i64 a, .int .i64 (-1)] ∧ Below w.heap.size w X) := fun X hX => ⟨N1.out.below hX N1.out.lt, A1.out.trans (hX.mono A1.out.size)⟩
  have R1 : Hid (InR W1 (.slice va ns2.length vc) ns2) := HR.out.below A1.out (Nat.le_refl _)
  clear CK CO
  go_wp2_with fail
  refine (CV.out _ R1.out).mono ?_
  rintro e w2 ⟨v2, rfl, hr2, hb2⟩
  have A2 : Hid (Below W1.heap.size W1 w2) := hb2
  have R2 : Hid (InR w2 v2 m) := hr2
  obtain ⟨ya, yc, rfl, hyc, hym, _, _⟩ := hr2
  unfold maxLen at hym
  clear hb2 CV R1
  obtain ⟨Q2, _⟩ := HK.out _ A2.out
  obtain ⟨q0, q1, _⟩ := Q2.all2
  clear Q2
  go_wp2_with fail
  refine (CW.out _ _ R2.out).mono ?_
  rintro e w3 ⟨rfl, hb3⟩
  have A3 : Hid (Below W1.heap.size W1 w3) := A2.out.trans (hb3.mono A2.out.size)
  have R3 : Hid (InR w3 (.slice ya m.length yc) m) := R2.out.below hb3 (Nat.le_refl _)
  clear hb3 q0 q1 A2 R2 CW
  go_upto_region 5 with fail
  have N4 : Hid (BX 23 (w3.alloc (.cells #[.int .i64 a, .int .i64 yl] 23)) w3.heap.size #[.int .i64 a, .int .i64 yl]) := BX.new _ _ _
  have A4 : Hid (Below W1.heap.size W1 (w3.alloc (.cells #[.int .i64 a, .int .i64 yl] 23))) := A3.out.alloc A3.out.size _
  have R4 : Hid (InR (w3.alloc (.cells #[.int .i64 a, .int .i64 yl] 23)) (.slice ya m.length yc) m) := R3.out.below (below_alloc _ _) (Nat.le_refl _)
  have L4 : Hid (W1.heap.size ≤ w3.heap.size) := A3.out.size
  generalize w3.alloc (.cells #[.int .i64 a, .int .i64 yl] 23) = W4 at *
  generalize w3.heap.size = q4 at *
  have HK4 : Hid (∀ X, Below W4.heap.size W4 X → BX 23 X w.heap.size #[.int .i64 a, .int .i64 (-1)] ∧ BX 23 X q4 #[.int .i64 a, .int .i64 yl] ∧ Below w.heap.size w X ∧ InR X (.slice ya m.length yc) m) := fun X hX => ⟨(HK.out X (A4.out.trans (hX.mono A4.out.size))).1, N4.out.below hX N4.out.lt, (HK.out X (A4.out.trans (hX.mono A4.out.size))).2, R4.out.below hX (Nat.le_refl _)⟩
  clear A3 R3 A4 R4 N4 L4 HK
  obtain ⟨Q4, _, _, _⟩ := HK4.out _ (Below.refl _ _)
  obtain ⟨q0, q1, _⟩ := Q4.all2
  clear Q4
  cases t3
  · have HST : Hid (hereB false (a, -1) pv (m.take 0) = false) := by show hereB false (a, -1) pv (m.take 0) = false; simp [hereB, hasB]
    go_wp2_with fail
    go_loopw [15, 16] (fun u i wr => ∃ (k : Nat) (t : Bool), k ≤ m.length ∧ i = .int .i64 k ∧ u = .bool t ∧ hereB false (a, -1) pv (m.take k) = t ∧ Below W4.heap.size W4 wr) (fun _ i _ => m.length - (intOf i).toNat)
    case atStart => exact ⟨0, false, by omega, rfl, rfl, HST.out, Below.refl _ _⟩
    case round =>
      obtain ⟨k, t, hk, rfl, rfl, ht, hb⟩ := hrel
      have HT : Hid (hereB false (a, -1) pv (m.take k) = t) := ht
      have A6 : Hid (Below W4.heap.size W4 wr) := hb
      clear ht hb q0 q1
      obtain ⟨Q6, Y6, B6, R6⟩ := HK4.out _ A6.out
      obtain ⟨q0, q1, _⟩ := Q6.all2
      clear Q6
      by_cases hlt : k < m.length
      · obtain ⟨xa, oa, cap', e1, _, _, la, hva⟩ := InR.at R6 (by omega)
        injection e1 with e1 _ e3
        subst e1 e3
        obtain ⟨y, hy⟩ := getX hlt
        have p0 : (0 : Int) ≤ (k : Int) := by omega
        have p1 : (k : Int) < (m.length : Int) := by omega
        have c1 := hva k y hy
        have HY : Hid (m[k]? = some y) := hy
        clear hva hy R6 Y6 B6
        cases t
        · by_cases ey : y = a
          · have d1 : (y == a) = true := by simpa using ey
            have HF : Hid (hereB false (a, -1) pv (m.take (k + 1)) = true) := by
              show hereB false (a, -1) pv (m.take (k + 1)) = true
              have := HT.out
              unfold hereB at this ⊢
              rw [hasB_snoc HY.out]
              simp [d1]
            go_wp2_with fail
            go_quiet (fail)
            go_wp2_with fail
            go_roundw
            case rel => exact ⟨k + 1, true, by omega, by go_num, rfl, HF.out, below_drewN A6.out _⟩
            case measure => simp [intOf]; omega
          · have d1 : (y == a) = false := by simpa using ey
            clear ey
            have HF : Hid (hereB false (a, -1) pv (m.take (k + 1)) = false) := by
              show hereB false (a, -1) pv (m.take (k + 1)) = false
              have := HT.out
              unfold hereB at this ⊢
              rw [hasB_snoc HY.out]
              simp only [d1]
              simpa using this
            go_wp2_with fail
            go_quiet (fail)
            go_wp2_with fail
            go_roundw
            case rel => exact ⟨k + 1, false, by omega, by go_num, rfl, HF.out, below_drewN A6.out _⟩
            case measure => simp [intOf]; omega
        · have HF : Hid (hereB false (a, -1) pv (m.take (k + 1)) = true) := by
            show hereB false (a, -1) pv (m.take (k + 1)) = true
            have := HT.out
            unfold hereB at this ⊢
            rw [hasB_snoc HY.out]
            have h2 : hasB (m.take k) a = true := by simpa using this
            simp [h2]
          go_wp2_with fail
          go_quiet (fail)
          go_wp2_with fail
          go_roundw
          case rel => exact ⟨k + 1, true, by omega, by go_num, rfl, HF.out, below_drewN A6.out _⟩
          case measure => simp [intOf]; omega
      · have e1 : H = t := by
          rw [← HH.out]
          have := HT.out
          rwa [List.take_of_length_le (by omega)] at this
        subst e1
        have B7 : Hid (Below w.heap.size w wr) := B6
        have R7 : Hid (InR wr (.slice ya m.length yc) m) := R6
        have Y7 : Hid (BX 23 wr q4 #[.int .i64 a, .int .i64 yl]) := Y6
        obtain ⟨y0, y1, _⟩ := Y6.all2
        clear R6 Y6 B6 HT
        cases H
        · have e2 : yl = -1 := HYL.out.symm
          subst e2
          go_wp2_with fail
          go_ret
          exact ⟨rfl, B7.out⟩
        · have e2 : yl = a := HYL.out.symm
          subst e2
          go_wp2_with fail
          refine (CX.out _ _ R7.out).mono ?_
          rintro e w8 ⟨rfl, hb8⟩
          have B8 : Hid (Below w.heap.size w w8) := B7.out.trans (hb8.mono B7.out.size)
          have Y8 : Hid (BX 23 w8 q4 #[.int .i64 yl, .int .i64 yl]) := Y7.out.below hb8 Y7.out.lt
          clear hb8 y0 y1 q0 q1 R7 Y7
          go_upto_region 15 with fail
          have N9 : BX 23 (w8.alloc (.cells #[.int .i64 yl, .int .i64 yl] 23)) w8.heap.size #[.int .i64 yl, .int .i64 yl] := BX.new _ _ _
          have Y9 : BX 23 (w8.alloc (.cells #[.int .i64 yl, .int .i64 yl] 23)) q4 #[.int .i64 yl, .int .i64 yl] := Y8.out.below (below_alloc _ _) Y8.out.lt
          have B9 : Hid (Below w.heap.size w (w8.alloc (.cells #[.int .i64 yl, .int .i64 yl] 23))) := B8.out.alloc B8.out.size _
          generalize w8.alloc (.cells #[.int .i64 yl, .int .i64 yl] 23) = W9 at *
          generalize w8.heap.size = q9 at *
          obtain ⟨n0, n1, _⟩ := N9.all2
          obtain ⟨y0, y1, _⟩ := Y9.all2
          clear N9 Y9
          go_wp2_with fail
          go_ret
          exact ⟨rfl, B9.out⟩
  · obtain ⟨h0, hh0⟩ : ∃ h0, (a == pv) = h0 := ⟨_, rfl⟩
    have HST : Hid (hereB true (a, -1) pv (m.take 0) = h0) := by show hereB true (a, -1) pv (m.take 0) = h0; rw [← hh0]; simp [hereB, hasB]
    go_wp2_with fail
    go_loopw [15, 16] (fun u i wr => ∃ (k : Nat) (t : Bool), k ≤ m.length ∧ i = .int .i64 k ∧ u = .bool t ∧ hereB true (a, -1) pv (m.take k) = t ∧ Below W4.heap.size W4 wr) (fun _ i _ => m.length - (intOf i).toNat)
    case atStart => exact ⟨0, h0, by omega, rfl, rfl, HST.out, Below.refl _ _⟩
    case round =>
      obtain ⟨k, t, hk, rfl, rfl, ht, hb⟩ := hrel
      have HT : Hid (hereB true (a, -1) pv (m.take k) = t) := ht
      have A6 : Hid (Below W4.heap.size W4 wr) := hb
      clear ht hb q0 q1
      obtain ⟨Q6, Y6, B6, R6⟩ := HK4.out _ A6.out
      obtain ⟨q0, q1, _⟩ := Q6.all2
      clear Q6
      by_cases hlt : k < m.length
      · obtain ⟨xa, oa, cap', e1, _, _, la, hva⟩ := InR.at R6 (by omega)
        injection e1 with e1 _ e3
        subst e1 e3
        obtain ⟨y, hy⟩ := getX hlt
        have p0 : (0 : Int) ≤ (k : Int) := by omega
        have p1 : (k : Int) < (m.length : Int) := by omega
        have c1 := hva k y hy
        have HY : Hid (m[k]? = some y) := hy
        clear hva hy R6 Y6 B6
        cases t
        · have HF : Hid (hereB true (a, -1) pv (m.take (k + 1)) = false) := by
            show hereB true (a, -1) pv (m.take (k + 1)) = false
            have := HT.out
            unfold hereB at this ⊢
            rw [hasB_snoc HY.out]
            simpa using this
          go_wp2_with fail
          go_quiet (fail)
          go_wp2_with fail
          go_roundw
          case rel => exact ⟨k + 1, false, by omega, by go_num, rfl, HF.out, below_drewN A6.out _⟩
          case measure => simp [intOf]; omega
        · have HF : Hid (hereB true (a, -1) pv (m.take (k + 1)) = true) := by
            show hereB true (a, -1) pv (m.take (k + 1)) = true
            have := HT.out
            unfold hereB at this ⊢
            rw [hasB_snoc HY.out]
            simpa using this
          go_wp2_with fail
          go_quiet (fail)
          go_wp2_with fail
          go_roundw
          case rel => exact ⟨k + 1, true, by omega, by go_num, rfl, HF.out, below_drewN A6.out _⟩
          case measure => simp [intOf]; omega
      · have e1 : H = t := by
          rw [← HH.out]
          have := HT.out
          rwa [List.take_of_length_le (by omega)] at this
        subst e1
        have B7 : Hid (Below w.heap.size w wr) := B6
        have R7 : Hid (InR wr (.slice ya m.length yc) m) := R6
        have Y7 : Hid (BX 23 wr q4 #[.int .i64 a, .int .i64 yl]) := Y6
        obtain ⟨y0, y1, _⟩ := Y6.all2
        clear R6 Y6 B6 HT
        cases H
        · have e2 : yl = -1 := HYL.out.symm
          subst e2
          go_wp2_with fail
          go_ret
          exact ⟨rfl, B7.out⟩
        · have e2 : yl = a := HYL.out.symm
          subst e2
          go_wp2_with fail
          refine (CX.out _ _ R7.out).mono ?_
          rintro e w8 ⟨rfl, hb8⟩
          have B8 : Hid (Below w.heap.size w w8) := B7.out.trans (hb8.mono B7.out.size)
          have Y8 : Hid (BX 23 w8 q4 #[.int .i64 yl, .int .i64 yl]) := Y7.out.below hb8 Y7.out.lt
          clear hb8 y0 y1 q0 q1 R7 Y7
          go_upto_region 15 with fail
          have N9 : BX 23 (w8.alloc (.cells #[.int .i64 yl, .int .i64 yl] 23)) w8.heap.size #[.int .i64 yl, .int .i64 yl] := BX.new _ _ _
          have Y9 : BX 23 (w8.alloc (.cells #[.int .i64 yl, .int .i64 yl] 23)) q4 #[.int .i64 yl, .int .i64 yl] := Y8.out.below (below_alloc _ _) Y8.out.lt
          have B9 : Hid (Below w.heap.size w (w8.alloc (.cells #[.int .i64 yl, .int .i64 yl] 23))) := B8.out.alloc B8.out.size _
          generalize w8.alloc (.cells #[.int .i64 yl, .int .i64 yl] 23) = W9 at *
          generalize w8.heap.size = q9 at *
          obtain ⟨n0, n1, _⟩ := N9.all2
          obtain ⟨y0, y1, _⟩ := Y9.all2
          clear N9 Y9
          go_wp2_with fail
          go_ret
          exact ⟨rfl, B9.out⟩

set_option maxHeartbeats 400000 in
set_option maxRecDepth 100000 in
theorem lifted (os : Os) (started : os.Started) (H : Type) (enc : TypeId × Value → H) :
    ReturnsInHanded {} Try.checked os 8 .any (Rows.progLabelSpec.pre6 enc Try.prog Try.f8 Rows.progLabelRow.domain false) (Rows.progLabelSpec.post enc Try.prog Try.f8 false true false false) := by
  refine returnsInHanded_of_change_sized (C := Try.checked) own started (by kernel_rfl) Try.func8
    (ChangeSpec.witness6 (enc := enc) (C := Try.checked) false ⟨#[], #[.int .i64 0, .int .i64 0, .slice none 0 0, .bool false], []⟩ 8 (by kernel_rfl) (by kernel_rfl) (by kernel_rfl) (by kernel_rfl)) ?_
  intro W base args ds gs before hval0 hW _ hsz0 _
  have hval : ∀ (j : Nat) t v, Try.f8.params[j]? = some t → args[j]? = some v → Value.okWide Try.prog W .any base t v := hval0
  have hW' := hW
  obtain ⟨p, q, hA0, hV, rfl, hfz, hnd⟩ := hW
  have hA : DataW.TrodAll enc Try.prog W 0 (fun _ => true) true Try.f8.params.toList args.toList ds p := hA0
  have hsz : (DataW.weightsEach Try.prog (Try.f8.params.toList ++ Rows.progLabelSpec.plain.varTypes Try.prog) (ds ++ gs)).all (fun x => decide (x ≤ reachBytes)) = true := hsz0
  rw [Try.params8] at hA hval hsz
  obtain ⟨v0, vs0, d0, ds0, p0, q0, hargs, rfl, rfl, h0, r0⟩ := trodAll_cons hA
  obtain ⟨v1, vs1, d1, ds1, p1, q1, rfl, rfl, rfl, h1, r1⟩ := trodAll_cons r0
  obtain ⟨v2, vs2, d2, ds2, p2, q2, rfl, rfl, rfl, h2, r2⟩ := trodAll_cons r1
  obtain ⟨v3, vs3, d3, ds3, p3, q3, rfl, rfl, rfl, h3, r3⟩ := trodAll_cons r2
  obtain ⟨rfl, rfl, rfl⟩ := trodAll_nil r3
  obtain rfl : args = #[v0, v1, v2, v3] := by cases args; simp_all
  obtain ⟨rfl, rfl⟩ := trodVars_none hV
  have k0 := h0
  have lt0 : ∀ x ∈ p0, x.block < W.heap.size := by obtain ⟨m, hm⟩ := k0; exact DataW.trod_lt m _ _ _ hm
  have k1 := h1
  have lt1 : ∀ x ∈ p1, x.block < W.heap.size := by obtain ⟨m, hm⟩ := k1; exact DataW.trod_lt m _ _ _ hm
  have k2 := h2
  have lt2 : ∀ x ∈ p2, x.block < W.heap.size := by obtain ⟨m, hm⟩ := k2; exact DataW.trod_lt m _ _ _ hm
  have hw2 : ∀ m ∈ d2.weights Try.prog 24, m ≤ reachBytes := fun m hm => by simpa using List.all_eq_true.1 hsz _ (DataW.weights_mem_each (j := 2) (t := 24) rfl rfl m hm)
  have k3 := h3
  have lt3 : ∀ x ∈ p3, x.block < W.heap.size := by obtain ⟨m, hm⟩ := k3; exact DataW.trod_lt m _ _ _ hm
  obtain ⟨n0, rfl, _, _, wf0⟩ := open_int Try.underlying3 (hval 0 3 v0 rfl rfl) h0
  have hI0 := bounds_i64 wf0
  obtain ⟨n1, rfl, _, _, wf1⟩ := open_int Try.underlying3 (hval 1 3 v1 rfl rfl) h1
  have hI1 := bounds_i64 wf1
  obtain ⟨ns2, hR2, hB2, hL2⟩ := open_intsR (okWide_slice Try.underlying24 (hval 2 24 v2 rfl rfl)) h2 hw2
  obtain ⟨t3, rfl⟩ := okWide_bool Try.underlying4 (hval 3 4 v3 rfl rfl)
  clear hA0 hval0
  refine (walk n0 n1 v2 ns2 t3 W hI0 hI1 hR2 hB2 hL2).mono fun e W' ⟨he, bel⟩ => ?_
  subst he
  exact ⟨_, rfl, _, _, _, [], _, [], hW', trodAll_mk1 (shut_bool Try.underlying4 _), (trodAll_cons_mk (Below.trod laidOut (by kernel_rfl) (of_decide_eq_true (by kernel_rfl)) k0 bel lt0) (trodAll_cons_mk (Below.trod laidOut (by kernel_rfl) (of_decide_eq_true (by kernel_rfl)) k1 bel lt1) (trodAll_cons_mk (Below.trod laidOut (by kernel_rfl) (of_decide_eq_true (by kernel_rfl)) k2 bel lt2) (trodAll_cons_mk (Below.trod laidOut (by kernel_rfl) (of_decide_eq_true (by kernel_rfl)) k3 bel lt3) trodAll_mk0)))), rfl, bel.frame _, fun h => by cases h⟩

theorem over : Rows.progLabelRow.holds Try.pinned (OpenSpec.ofChange Rows.progLabelSpec) :=
  OpenClaim.holds_of_wide 8 Try.f8 rfl rfl rfl rfl rfl rfl rfl ⟨rfl, rfl, rfl, rfl, rfl⟩ rfl rfl rfl rfl rfl (by kernel_rfl) Try.func8 (by kernel_rfl)
    (of_decide_eq_true (by kernel_rfl)) (by unfold Func.isWrapper; first | (rw [if_pos (by decide +kernel)]; kernel_rfl) | (rw [if_neg (by decide +kernel)]; exact ⟨rfl, rfl⟩))
    (fun os started H enc _ => lifted os started H enc)

/-- The statement. -/
theorem proved : Rows.ProgLabelSaid := over
#print axioms proved
end Go.Proofs.Ytokbfgopemgbcaa.progLabel
