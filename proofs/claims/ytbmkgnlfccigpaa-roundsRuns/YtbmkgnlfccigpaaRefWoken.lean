/-
  Contract of the document's own Woken.
-/
import Derived.Test.YtbmkgnlfccigpaaRefProg
import Derived.Test.YtbmkgnlfccigpaaHereMath
namespace Go.Proofs.Ytbmkgnlfccigpaa
set_option maxRecDepth 100000
open Go.ChangeShapes Go.WideShapes Go.ChangeAt Go.RowKit

/-- A value, whether it is said, and an error. -/
def WokP (w : World) (r : Wk) (e : Ending) (w' : World) : Prop :=
  e = .returned (.tuple #[.agg #[.int .i64 r.x.1, .int .i64 r.x.2], .bool r.b, .int .i64 r.f]) ∧ Below w.heap.size w w'

set_option maxHeartbeats 2000000 in
set_option maxRecDepth 100000 in
theorem woken_none {k v s p : Int} {x : Ml} {b : Bool} {m : List Int} (vm : Value) (h : jobF k p = none ∧ ¬ (k = 1 ∧ p = 0) ∧ ¬ (k = 2 ∧ p = 0) ∧ ¬ (k = 3 ∧ p = 0) ∧ ¬ (k = 3 ∧ p = 1)) (w : World) (hm : InR w vm m) :
    Calls Try.prog 30 #[.int .i64 k, .int .i64 v, .int .i64 s, .agg #[.int .i64 x.1, .int .i64 x.2], .int .i64 p, .bool b, vm] w (WokP w (wakeF k v s x p b m)) := by
  obtain ⟨a, cap, rfl⟩ := hm.shape
  clear hm
  rw [wakeF_none h.1]
  have HC : Hid (∀ X, Calls Try.prog 53 #[.int .i64 k, .int .i64 p] X fun e w' => e = .returned (.bool false) ∧ w' = X) := fun X => kindMay_none h.2 X
  obtain ⟨W0, hW0⟩ : ∃ W0, W0 = (w.alloc (.cells #[.int .i64 x.1, .int .i64 x.2] 59)).alloc (.cells #[.int .i64 0, .int .i64 0] 59) := ⟨_, rfl⟩
  obtain ⟨Q0, T0, B0, s1, s2⟩ := boxes2 w #[.int .i64 x.1, .int .i64 x.2] #[.int .i64 0, .int .i64 0] 59 59 W0 hW0
  have HE : Hid (∀ w', Below w.heap.size w w' → WokP w ⟨(0, 0), false, 3⟩ (.returned (.tuple #[.agg #[.int .i64 0, .int .i64 0], .bool false, .int .i64 3])) w') := fun w' hw => ⟨rfl, hw⟩
  generalize WokP w ⟨(0, 0), false, 3⟩ = P at *
  obtain ⟨t0, t1, t2, t3⟩ := T0.all2
  have RX : Hid (BX 59 (put2 W0 (w.heap.size + 1) (.int .i64 0) (.int .i64 0)) (w.heap.size + 1) #[.int .i64 0, .int .i64 0]) := T0.put2 _ _
  have HX : Hid (Below w.heap.size w (put2 W0 (w.heap.size + 1) (.int .i64 0) (.int .i64 0))) := below_put2 B0 (by omega) _ _
  clear Q0 T0 B0 h
  go_enter Try.func30, Try.ntmps30
  go_upto_region 1 with fail
  rw [← hW0]
  clear hW0
  go_wp2_with fail
  refine (HC.out _).mono ?_
  rintro e w1 ⟨rfl, hw⟩
  replace hw := hw.symm
  subst hw
  go_wp2_with fail
  obtain ⟨r0, r1, _⟩ := RX.out.all2
  unfold put2 at r0 r1
  exact bodyPost_ret (v := .tuple #[.agg #[.int .i64 0, .int .i64 0], .bool false, .int .i64 3]) (by simp [results, Try.results30, go_sem, r0, r1]) rfl (HE.out _ HX.out)

theorem wakeJ_no {j : Jb} {v s : Int} {x : Ml} {b : Bool} {m : List Int} (h : (inB v 0 199 && valB j x && mailB j m) = false) : wakeJ j v s x b m = ⟨(0, 0), false, 2⟩ := by
  unfold wakeJ; rw [h]; rfl
theorem wakeJ_yes {j : Jb} {v s : Int} {x : Ml} {b : Bool} {m : List Int} {y : Ml} {t : Bool} (h1 : inB v 0 199 = true) (h2 : valB j x = true) (h3 : mailB j m = true) (h : wakeV j v s x b m = (y, t)) : wakeJ j v s x b m = ⟨(y.1, y.2), t, 0⟩ := by
  unfold wakeJ; rw [h1, h2, h3, h]; rfl
theorem dist_low {v s : Int} {x : Ml} {m : List Int} {r : Ml × Bool} (h : lowV x m = r) : wakeV (false, false) v s x false m = r := h
theorem weak_low {v s : Int} {x : Ml} {m : List Int} {r : Ml × Bool} (h : lowV x m = r) : wakeV (false, true) v s x false m = r := h
theorem fwd_low {v s : Int} {x : Ml} {m : List Int} {r : Ml × Bool} (hl : x.2 = -1) (h : lowV x m = r) : wakeV (true, false) v s x false m = r := by
  show hearF (true, false) x m = r
  unfold hearF; simp only; rw [if_pos hl]; exact h
theorem fwd_new {v s : Int} {x : Ml} {m : List Int} (hl : x.2 = -1) : wakeV (true, false) v s x true m = ((v, -1), true) := by
  show beginF (true, false) v s x = _
  unfold beginF; simp only; rw [if_pos hl]
theorem dist_src {v s : Int} {x : Ml} {m : List Int} (h : v = s) : wakeV (false, false) v s x true m = ((0, -1), true) := by
  show beginF (false, false) v s x = _
  unfold beginF; simp only; rw [if_pos h]
theorem dist_oth {v s : Int} {x : Ml} {m : List Int} (h : ¬ v = s) : wakeV (false, false) v s x true m = ((-1, -1), false) := by
  show beginF (false, false) v s x = _
  unfold beginF; simp only; rw [if_neg h]
/-- What the document says of the least one. -/
theorem low_yes {x : Ml} {m : List Int} (hx : -1 ≤ x.1) (hm : ∀ y ∈ m, 0 ≤ y) (h : 0 ≤ leastF m ∧ (x.1 < 0 ∨ leastF m < x.1)) : lowV x m = ((leastF m, x.2), true) := by
  unfold lowV; rw [(low_eq x.1 m hx hm).1 h]
theorem low_no {x : Ml} {m : List Int} (hx : -1 ≤ x.1) (hm : ∀ y ∈ m, 0 ≤ y) (h : ¬ (0 ≤ leastF m ∧ (x.1 < 0 ∨ leastF m < x.1))) : lowV x m = ((x.1, x.2), false) := by
  unfold lowV; rw [(low_eq x.1 m hx hm).2 h]

set_option maxHeartbeats 8000000 in
set_option maxRecDepth 100000 in
theorem woken_job (j : Jb) (v s : Int) (x : Ml) (b : Bool) (m : List Int) (vm : Value) (w : World) (hm : InR w vm m) :
    Calls Try.prog 30 #[.int .i64 (Jb.k j), .int .i64 v, .int .i64 s, .agg #[.int .i64 x.1, .int .i64 x.2], .int .i64 (Jb.p j), .bool b, vm] w (WokP w (wakeJ j v s x b m)) := by
  have HR : Hid (InR w vm m) := hm
  obtain ⟨a, cap, rfl, hca, hma, _, _⟩ := hm
  unfold maxLen at hma
  have CJ : Hid (∀ X, Calls Try.prog 53 #[.int .i64 (Jb.k j), .int .i64 (Jb.p j)] X fun e w' => e = .returned (.bool true) ∧ w' = X) := fun X => kindMay_any j X
  have CI : Hid (∀ X, Calls Try.prog 52 #[.int .i64 v, .int .i64 0, .int .i64 199] X fun e w' => e = .returned (.bool (inB v 0 199)) ∧ w' = X) := fun X => in_any v 0 199 X
  have CV : Hid (∀ X, Calls Try.prog 54 #[.int .i64 (Jb.k j), .agg #[.int .i64 x.1, .int .i64 x.2]] X fun e w' => e = .returned (.bool (valB j x)) ∧ Below X.heap.size X w') := fun X => valueMay_any j x X
  have CT : Hid (∀ X, Calls Try.prog 55 #[.int .i64 (Jb.k j)] X fun e w' => e = .returned (.int .i64 (Jb.top j)) ∧ w' = X) := fun X => topR_any j X
  have CL : Hid (∀ X, InR X (.slice a m.length cap) m → Calls Try.prog 56 #[.slice a m.length cap] X fun e w' => e = .returned (.int .i64 (leastF m)) ∧ w' = X) := fun X hX => leastMail_any _ m X hX
  obtain ⟨W0, hW0⟩ : ∃ W0, W0 = (w.alloc (.cells #[.int .i64 x.1, .int .i64 x.2] 59)).alloc (.cells #[.int .i64 0, .int .i64 0] 59) := ⟨_, rfl⟩
  obtain ⟨Q0, T0, B0, s1, s2⟩ := boxes2 w #[.int .i64 x.1, .int .i64 x.2] #[.int .i64 0, .int .i64 0] 59 59 W0 hW0
  have Q1 : Hid (BX 59 W0 w.heap.size #[.int .i64 x.1, .int .i64 x.2]) := Q0
  have T1 : Hid (BX 59 W0 (w.heap.size + 1) #[.int .i64 0, .int .i64 0]) := T0
  have BH : Hid (Below w.heap.size w W0) := B0
  have HK : Hid (∀ X, Below W0.heap.size W0 X → BX 59 X w.heap.size #[.int .i64 x.1, .int .i64 x.2] ∧ BX 59 X (w.heap.size + 1) #[.int .i64 0, .int .i64 0] ∧ Below w.heap.size w X ∧ InR X (.slice a m.length cap) m) := fun X hX => ⟨Q1.out.below hX (by omega), T1.out.below hX (by omega), BH.out.trans (hX.mono (by omega)), HR.out.below (BH.out.trans (hX.mono (by omega))) (Nat.le_refl _)⟩
  have A0 : Hid (Below W0.heap.size W0 W0) := Below.refl _ _
  obtain ⟨q0, q1, _⟩ := Q0.all2
  clear Q0 T0 B0
  have HE : Hid (∀ (r : Wk) w', wakeJ j v s x b m = r → Below w.heap.size w w' → WokP w (wakeJ j v s x b m) (.returned (.tuple #[.agg #[.int .i64 r.x.1, .int .i64 r.x.2], .bool r.b, .int .i64 r.f])) w') := fun r w' hr hw => ⟨by rw [hr], hw⟩
  generalize WokP w (wakeJ j v s x b m) = P at *
  obtain ⟨kk, hkk⟩ : ∃ kk, Jb.k j = kk := ⟨_, rfl⟩
  obtain ⟨pp, hpp⟩ : ∃ pp, Jb.p j = pp := ⟨_, rfl⟩
  have HKK : Hid (Jb.k j = kk) := hkk
  have HPP : Hid (Jb.p j = pp) := hpp
  rw [hkk] at CJ CV CT ⊢
  rw [hpp] at CJ ⊢
  clear hkk hpp
  cases h1 : inB v 0 199
  · have HN : Hid (wakeJ j v s x b m = ⟨(0, 0), false, 2⟩) := wakeJ_no (by rw [h1]; rfl)
    rw [h1] at CI
    clear h1 CT CL CV
    go_enter Try.func30, Try.ntmps30
    go_upto_region 1 with fail
    rw [← hW0]
    clear hW0
    go_wp2_with fail
    refine (CJ.out _).mono ?_
    rintro e w1 ⟨rfl, hw⟩
    replace hw := hw.symm
    subst hw
    go_wp2_with fail
    refine (CI.out _).mono ?_
    rintro e w1 ⟨rfl, hw⟩
    replace hw := hw.symm
    subst hw
    obtain ⟨_, TE, BE, _⟩ := HK.out _ A0.out
    obtain ⟨t0, t1, t2, t3⟩ := TE.all2
    have RX : Hid (BX 59 (put2 W0 (w.heap.size + 1) (.int .i64 0) (.int .i64 0)) (w.heap.size + 1) #[.int .i64 0, .int .i64 0]) := TE.put2 _ _
    have HX : Hid (Below w.heap.size w (put2 W0 (w.heap.size + 1) (.int .i64 0) (.int .i64 0))) := below_put2 BE (by omega) _ _
    have HQ : Hid (wakeJ j v s x b m = ⟨(0, 0), false, 2⟩) := HN.out
    clear TE BE
    go_wp2_with fail
    obtain ⟨r0, r1, _⟩ := RX.out.all2
    unfold put2 at r0 r1
    exact bodyPost_ret (v := .tuple #[.agg #[.int .i64 0, .int .i64 0], .bool false, .int .i64 2]) (by simp [results, Try.results30, go_sem, r0, r1]) rfl (HE.out _ _ HQ.out HX.out)
  · cases h2 : valB j x
    · have HN : Hid (wakeJ j v s x b m = ⟨(0, 0), false, 2⟩) := wakeJ_no (by rw [h1, h2]; rfl)
      rw [h1] at CI
      rw [h2] at CV
      clear h1 h2 CT CL
      go_enter Try.func30, Try.ntmps30
      go_upto_region 1 with fail
      rw [← hW0]
      clear hW0
      go_wp2_with fail
      refine (CJ.out _).mono ?_
      rintro e w1 ⟨rfl, hw⟩
      replace hw := hw.symm
      subst hw
      go_wp2_with fail
      refine (CI.out _).mono ?_
      rintro e w1 ⟨rfl, hw⟩
      replace hw := hw.symm
      subst hw
      go_wp2_with fail
      refine (CV.out _).mono ?_
      rintro e w2 ⟨rfl, hb2⟩
      have A2 : Hid (Below W0.heap.size W0 w2) := hb2
      clear hb2 q0 q1
      obtain ⟨_, TE, BE, _⟩ := HK.out _ A2.out
      obtain ⟨t0, t1, t2, t3⟩ := TE.all2
      have RX : Hid (BX 59 (put2 w2 (w.heap.size + 1) (.int .i64 0) (.int .i64 0)) (w.heap.size + 1) #[.int .i64 0, .int .i64 0]) := TE.put2 _ _
      have HX : Hid (Below w.heap.size w (put2 w2 (w.heap.size + 1) (.int .i64 0) (.int .i64 0))) := below_put2 BE (by omega) _ _
      have HQ : Hid (wakeJ j v s x b m = ⟨(0, 0), false, 2⟩) := HN.out
      clear TE BE
      go_wp2_with fail
      obtain ⟨r0, r1, _⟩ := RX.out.all2
      unfold put2 at r0 r1
      exact bodyPost_ret (v := .tuple #[.agg #[.int .i64 0, .int .i64 0], .bool false, .int .i64 2]) (by simp [results, Try.results30, go_sem, r0, r1]) rfl (HE.out _ _ HQ.out HX.out)
    · have hxb : -1 ≤ x.1 ∧ -1 ≤ x.2 := by
        have h2' := h2
        unfold valB at h2'
        rw [Bool.and_eq_true] at h2'
        exact ⟨(inB_iff.1 h2'.1).1, (inB_iff.1 h2'.2).1⟩
      have HXB : Hid (-1 ≤ x.1 ∧ -1 ≤ x.2) := hxb
      have H1 : Hid (inB v 0 199 = true) := h1
      have H2 : Hid (valB j x = true) := h2
      rw [h1] at CI
      rw [h2] at CV
      clear h1 h2 hxb
      obtain ⟨T, hT⟩ : ∃ T, Jb.top j = T := ⟨_, rfl⟩
      have HTT : Hid (Jb.top j = T) := hT
      rw [hT] at CT
      clear hT
      have HMB : Hid (mailB j m = m.all fun y => inB y 0 T) := by show mailB j m = _; rw [← HTT.out]; rfl
      go_enter Try.func30, Try.ntmps30
      go_upto_region 1 with fail
      rw [← hW0]
      clear hW0
      go_wp2_with fail
      refine (CJ.out _).mono ?_
      rintro e w1 ⟨rfl, hw⟩
      replace hw := hw.symm
      subst hw
      go_wp2_with fail
      refine (CI.out _).mono ?_
      rintro e w1 ⟨rfl, hw⟩
      replace hw := hw.symm
      subst hw
      go_wp2_with fail
      refine (CV.out _).mono ?_
      rintro e w2 ⟨rfl, hb2⟩
      have A2 : Hid (Below W0.heap.size W0 w2) := hb2
      clear hb2 q0 q1
      clear CJ CI CV
      go_wp2_with fail
      go_loopw [17] (fun i wr => ∃ k : Nat, k ≤ m.length ∧ i = .int .i64 k ∧ ((m.take k).all fun y => inB y 0 T) = true ∧ Below W0.heap.size W0 wr) (fun i _ => m.length - (intOf i).toNat)
      case atStart => exact ⟨0, by omega, rfl, rfl, A2.out⟩
      case round =>
        obtain ⟨k, hk, rfl, hh, hb⟩ := hrel
        have HH : Hid (((m.take k).all fun y => inB y 0 T) = true) := hh
        have A3 : Hid (Below W0.heap.size W0 wr) := hb
        clear hh hb
        by_cases hlt : k < m.length
        · obtain ⟨_, _, _, R3⟩ := HK.out _ A3.out
          obtain ⟨xa, oa, cap', e1, _, _, la, hva⟩ := InR.at R3 (by omega)
          injection e1 with e1 _ e3
          subst e1 e3
          obtain ⟨y, hy⟩ := getX hlt
          have p0 : (0 : Int) ≤ (k : Int) := by omega
          have p1 : (k : Int) < (m.length : Int) := by omega
          have c1 := hva k y hy
          have HY : Hid (m[k]? = some y) := hy
          clear hva hy R3
          cases hin : inB y 0 T
          · have HN : Hid (wakeJ j v s x b m = ⟨(0, 0), false, 2⟩) := wakeJ_no (by
              have hmf : mailB j m = false := by
                rw [HMB.out]
                refine Bool.eq_false_iff.2 fun hall => ?_
                have := List.all_eq_true.1 hall y (List.mem_of_getElem? HY.out)
                rw [hin] at this
                cases this
              rw [hmf, Bool.and_false])
            have C2 : Hid (∀ X, Calls Try.prog 52 #[.int .i64 y, .int .i64 0, .int .i64 T] X fun e w' => e = .returned (.bool false) ∧ w' = X) := fun X => in_is hin X
            clear hin
            go_wp2_with fail
            go_quiet (first | (go_at_call 55; exact Calls.quiet_of_same (CT.out _)) | (go_at_call 52; exact Calls.quiet_of_same (C2.out _)))
            have A4 : Hid (Below W0.heap.size W0 (wr.drewN nq)) := below_drewN A3.out _
            generalize wr.drewN nq = w4 at *
            obtain ⟨_, TE, BE, _⟩ := HK.out _ A4.out
            obtain ⟨t0, t1, t2, t3⟩ := TE.all2
            have RX : Hid (BX 59 (put2 w4 (w.heap.size + 1) (.int .i64 0) (.int .i64 0)) (w.heap.size + 1) #[.int .i64 0, .int .i64 0]) := TE.put2 _ _
            have HX : Hid (Below w.heap.size w (put2 w4 (w.heap.size + 1) (.int .i64 0) (.int .i64 0))) := below_put2 BE (by omega) _ _
            have HQ : Hid (wakeJ j v s x b m = ⟨(0, 0), false, 2⟩) := HN.out
            clear TE BE
            go_wp2_with fail
            obtain ⟨r0, r1, _⟩ := RX.out.all2
            unfold put2 at r0 r1
            exact bodyPost_ret (v := .tuple #[.agg #[.int .i64 0, .int .i64 0], .bool false, .int .i64 2]) (by simp [results, Try.results30, go_sem, r0, r1]) rfl (HE.out _ _ HQ.out HX.out)
          · have HF : Hid (((m.take (k + 1)).all fun y => inB y 0 T) = true) := by
              show ((m.take (k + 1)).all fun y => inB y 0 T) = true
              rw [take_snoc HY.out, List.all_append, HH.out]
              simp [hin]
            have C2 : Hid (∀ X, Calls Try.prog 52 #[.int .i64 y, .int .i64 0, .int .i64 T] X fun e w' => e = .returned (.bool true) ∧ w' = X) := fun X => in_is hin X
            clear hin
            go_wp2_with fail
            go_quiet (first | (go_at_call 55; exact Calls.quiet_of_same (CT.out _)) | (go_at_call 52; exact Calls.quiet_of_same (C2.out _)))
            go_wp2_with fail
            go_roundw
            case rel => exact ⟨k + 1, by omega, by go_num, HF.out, below_drewN A3.out _⟩
            case measure => simp [intOf]; omega
        · have HMA : Hid (mailB j m = true) := by
            show mailB j m = true
            rw [HMB.out]
            have := HH.out
            rwa [List.take_of_length_le (by omega)] at this
          have HMN : Hid (∀ y ∈ m, 0 ≤ y) := fun y hy => (mailB_iff.1 HMA.out y hy).1
          obtain ⟨Q3, _, _, R3⟩ := HK.out _ A3.out
          have R4 : Hid (InR wr (.slice a m.length cap) m) := R3
          obtain ⟨q0, q1, _⟩ := Q3.all2
          clear Q3 R3 HMB CT HH
          go_wp2_with fail
          refine (CL.out _ R4.out).mono ?_
          rintro e w5 ⟨rfl, hw5⟩
          replace hw5 := hw5.symm
          subst hw5
          obtain ⟨L, hL⟩ : ∃ L, leastF m = L := ⟨_, rfl⟩
          have HL : Hid (leastF m = L) := hL
          rw [hL]
          clear hL CL R4
          revert HKK HPP H2 HMA HTT HE
          revert j
          refine jb_cases ?_ ?_ ?_ ?_
          · intro HE HKK HPP H2 HTT HMA
            have hk : kk = 1 := HKK.out.symm
            have hp : pp = 0 := HPP.out.symm
            subst hk hp
            cases b
            · by_cases hc : 0 ≤ L ∧ (x.1 < 0 ∨ L < x.1)
              · have HC : Hid (0 ≤ L ∧ (x.1 < 0 ∨ L < x.1)) := hc
                have c0 : L ≥ 0 := hc.1
                by_cases c1 : x.1 < 0
                · clear hc
                  obtain ⟨_, TE, BE, _⟩ := HK.out _ A3.out
                  obtain ⟨t0, t1, t2, t3⟩ := TE.all2
                  have RX : Hid (BX 59 (put2 wr (w.heap.size + 1) (.int .i64 L) (.int .i64 x.2)) (w.heap.size + 1) #[.int .i64 L, .int .i64 x.2]) := TE.put2 _ _
                  have HX : Hid (Below w.heap.size w (put2 wr (w.heap.size + 1) (.int .i64 L) (.int .i64 x.2))) := below_put2 BE (by omega) _ _
                  have HQ : Hid (wakeJ (false, false) v s x false m = ⟨(L, x.2), true, 0⟩) := wakeJ_yes (y := (L, x.2)) H1.out H2.out HMA.out (dist_low (by have := low_yes HXB.out.1 HMN.out (by rw [HL.out]; exact HC.out); rwa [HL.out] at this))
                  clear TE BE
                  go_wp2_with fail
                  obtain ⟨r0, r1, _⟩ := RX.out.all2
                  unfold put2 at r0 r1
                  exact bodyPost_ret (v := .tuple #[.agg #[.int .i64 L, .int .i64 x.2], .bool true, .int .i64 0]) (by simp [results, Try.results30, go_sem, r0, r1]) rfl (HE.out _ _ HQ.out HX.out)
                · have c2 : L < x.1 := by rcases hc.2 with h | h; exact absurd h c1; exact h
                  clear hc
                  obtain ⟨_, TE, BE, _⟩ := HK.out _ A3.out
                  obtain ⟨t0, t1, t2, t3⟩ := TE.all2
                  have RX : Hid (BX 59 (put2 wr (w.heap.size + 1) (.int .i64 L) (.int .i64 x.2)) (w.heap.size + 1) #[.int .i64 L, .int .i64 x.2]) := TE.put2 _ _
                  have HX : Hid (Below w.heap.size w (put2 wr (w.heap.size + 1) (.int .i64 L) (.int .i64 x.2))) := below_put2 BE (by omega) _ _
                  have HQ : Hid (wakeJ (false, false) v s x false m = ⟨(L, x.2), true, 0⟩) := wakeJ_yes (y := (L, x.2)) H1.out H2.out HMA.out (dist_low (by have := low_yes HXB.out.1 HMN.out (by rw [HL.out]; exact HC.out); rwa [HL.out] at this))
                  clear TE BE
                  go_wp2_with fail
                  obtain ⟨r0, r1, _⟩ := RX.out.all2
                  unfold put2 at r0 r1
                  exact bodyPost_ret (v := .tuple #[.agg #[.int .i64 L, .int .i64 x.2], .bool true, .int .i64 0]) (by simp [results, Try.results30, go_sem, r0, r1]) rfl (HE.out _ _ HQ.out HX.out)
              · have HC : Hid (¬ (0 ≤ L ∧ (x.1 < 0 ∨ L < x.1))) := hc
                by_cases c0 : L ≥ 0
                · have c1 : ¬ x.1 < 0 := fun h => hc ⟨c0, .inl h⟩
                  have c2 : ¬ L < x.1 := fun h => hc ⟨c0, .inr h⟩
                  clear hc
                  obtain ⟨_, TE, BE, _⟩ := HK.out _ A3.out
                  obtain ⟨t0, t1, t2, t3⟩ := TE.all2
                  have RX : Hid (BX 59 (put2 wr (w.heap.size + 1) (.int .i64 x.1) (.int .i64 x.2)) (w.heap.size + 1) #[.int .i64 x.1, .int .i64 x.2]) := TE.put2 _ _
                  have HX : Hid (Below w.heap.size w (put2 wr (w.heap.size + 1) (.int .i64 x.1) (.int .i64 x.2))) := below_put2 BE (by omega) _ _
                  have HQ : Hid (wakeJ (false, false) v s x false m = ⟨(x.1, x.2), false, 0⟩) := wakeJ_yes (y := (x.1, x.2)) H1.out H2.out HMA.out (dist_low (low_no HXB.out.1 HMN.out (by rw [HL.out]; exact HC.out)))
                  clear TE BE
                  go_wp2_with fail
                  obtain ⟨r0, r1, _⟩ := RX.out.all2
                  unfold put2 at r0 r1
                  exact bodyPost_ret (v := .tuple #[.agg #[.int .i64 x.1, .int .i64 x.2], .bool false, .int .i64 0]) (by simp [results, Try.results30, go_sem, r0, r1]) rfl (HE.out _ _ HQ.out HX.out)
                · clear hc
                  obtain ⟨_, TE, BE, _⟩ := HK.out _ A3.out
                  obtain ⟨t0, t1, t2, t3⟩ := TE.all2
                  have RX : Hid (BX 59 (put2 wr (w.heap.size + 1) (.int .i64 x.1) (.int .i64 x.2)) (w.heap.size + 1) #[.int .i64 x.1, .int .i64 x.2]) := TE.put2 _ _
                  have HX : Hid (Below w.heap.size w (put2 wr (w.heap.size + 1) (.int .i64 x.1) (.int .i64 x.2))) := below_put2 BE (by omega) _ _
                  have HQ : Hid (wakeJ (false, false) v s x false m = ⟨(x.1, x.2), false, 0⟩) := wakeJ_yes (y := (x.1, x.2)) H1.out H2.out HMA.out (dist_low (low_no HXB.out.1 HMN.out (by rw [HL.out]; exact HC.out)))
                  clear TE BE
                  go_wp2_with fail
                  obtain ⟨r0, r1, _⟩ := RX.out.all2
                  unfold put2 at r0 r1
                  exact bodyPost_ret (v := .tuple #[.agg #[.int .i64 x.1, .int .i64 x.2], .bool false, .int .i64 0]) (by simp [results, Try.results30, go_sem, r0, r1]) rfl (HE.out _ _ HQ.out HX.out)
            · by_cases c0 : v = s
              · have d0 : (v == s) = true := by simpa using c0
                have HC : Hid (v = s) := c0
                clear c0
                obtain ⟨_, TE, BE, _⟩ := HK.out _ A3.out
                obtain ⟨t0, t1, t2, t3⟩ := TE.all2
                have RX : Hid (BX 59 (put2 wr (w.heap.size + 1) (.int .i64 0) (.int .i64 (-1))) (w.heap.size + 1) #[.int .i64 0, .int .i64 (-1)]) := TE.put2 _ _
                have HX : Hid (Below w.heap.size w (put2 wr (w.heap.size + 1) (.int .i64 0) (.int .i64 (-1)))) := below_put2 BE (by omega) _ _
                have HQ : Hid (wakeJ (false, false) v s x true m = ⟨(0, (-1)), true, 0⟩) := wakeJ_yes (y := (0, (-1))) H1.out H2.out HMA.out (dist_src HC.out)
                clear TE BE
                go_wp2_with fail
                obtain ⟨r0, r1, _⟩ := RX.out.all2
                unfold put2 at r0 r1
                exact bodyPost_ret (v := .tuple #[.agg #[.int .i64 0, .int .i64 (-1)], .bool true, .int .i64 0]) (by simp [results, Try.results30, go_sem, r0, r1]) rfl (HE.out _ _ HQ.out HX.out)
              · have d0 : (v == s) = false := by simpa using c0
                have HC : Hid (¬ v = s) := c0
                clear c0
                obtain ⟨_, TE, BE, _⟩ := HK.out _ A3.out
                obtain ⟨t0, t1, t2, t3⟩ := TE.all2
                have RX : Hid (BX 59 (put2 wr (w.heap.size + 1) (.int .i64 (-1)) (.int .i64 (-1))) (w.heap.size + 1) #[.int .i64 (-1), .int .i64 (-1)]) := TE.put2 _ _
                have HX : Hid (Below w.heap.size w (put2 wr (w.heap.size + 1) (.int .i64 (-1)) (.int .i64 (-1)))) := below_put2 BE (by omega) _ _
                have HQ : Hid (wakeJ (false, false) v s x true m = ⟨((-1), (-1)), false, 0⟩) := wakeJ_yes (y := ((-1), (-1))) H1.out H2.out HMA.out (dist_oth HC.out)
                clear TE BE
                go_wp2_with fail
                obtain ⟨r0, r1, _⟩ := RX.out.all2
                unfold put2 at r0 r1
                exact bodyPost_ret (v := .tuple #[.agg #[.int .i64 (-1), .int .i64 (-1)], .bool false, .int .i64 0]) (by simp [results, Try.results30, go_sem, r0, r1]) rfl (HE.out _ _ HQ.out HX.out)
          · intro HE HKK HPP H2 HTT HMA
            have hk : kk = 2 := HKK.out.symm
            have hp : pp = 0 := HPP.out.symm
            subst hk hp
            cases b
            · by_cases hc : 0 ≤ L ∧ (x.1 < 0 ∨ L < x.1)
              · have HC : Hid (0 ≤ L ∧ (x.1 < 0 ∨ L < x.1)) := hc
                have c0 : L ≥ 0 := hc.1
                by_cases c1 : x.1 < 0
                · clear hc
                  obtain ⟨_, TE, BE, _⟩ := HK.out _ A3.out
                  obtain ⟨t0, t1, t2, t3⟩ := TE.all2
                  have RX : Hid (BX 59 (put2 wr (w.heap.size + 1) (.int .i64 L) (.int .i64 x.2)) (w.heap.size + 1) #[.int .i64 L, .int .i64 x.2]) := TE.put2 _ _
                  have HX : Hid (Below w.heap.size w (put2 wr (w.heap.size + 1) (.int .i64 L) (.int .i64 x.2))) := below_put2 BE (by omega) _ _
                  have HQ : Hid (wakeJ (false, true) v s x false m = ⟨(L, x.2), true, 0⟩) := wakeJ_yes (y := (L, x.2)) H1.out H2.out HMA.out (weak_low (by have := low_yes HXB.out.1 HMN.out (by rw [HL.out]; exact HC.out); rwa [HL.out] at this))
                  clear TE BE
                  go_wp2_with fail
                  obtain ⟨r0, r1, _⟩ := RX.out.all2
                  unfold put2 at r0 r1
                  exact bodyPost_ret (v := .tuple #[.agg #[.int .i64 L, .int .i64 x.2], .bool true, .int .i64 0]) (by simp [results, Try.results30, go_sem, r0, r1]) rfl (HE.out _ _ HQ.out HX.out)
                · have c2 : L < x.1 := by rcases hc.2 with h | h; exact absurd h c1; exact h
                  clear hc
                  obtain ⟨_, TE, BE, _⟩ := HK.out _ A3.out
                  obtain ⟨t0, t1, t2, t3⟩ := TE.all2
                  have RX : Hid (BX 59 (put2 wr (w.heap.size + 1) (.int .i64 L) (.int .i64 x.2)) (w.heap.size + 1) #[.int .i64 L, .int .i64 x.2]) := TE.put2 _ _
                  have HX : Hid (Below w.heap.size w (put2 wr (w.heap.size + 1) (.int .i64 L) (.int .i64 x.2))) := below_put2 BE (by omega) _ _
                  have HQ : Hid (wakeJ (false, true) v s x false m = ⟨(L, x.2), true, 0⟩) := wakeJ_yes (y := (L, x.2)) H1.out H2.out HMA.out (weak_low (by have := low_yes HXB.out.1 HMN.out (by rw [HL.out]; exact HC.out); rwa [HL.out] at this))
                  clear TE BE
                  go_wp2_with fail
                  obtain ⟨r0, r1, _⟩ := RX.out.all2
                  unfold put2 at r0 r1
                  exact bodyPost_ret (v := .tuple #[.agg #[.int .i64 L, .int .i64 x.2], .bool true, .int .i64 0]) (by simp [results, Try.results30, go_sem, r0, r1]) rfl (HE.out _ _ HQ.out HX.out)
              · have HC : Hid (¬ (0 ≤ L ∧ (x.1 < 0 ∨ L < x.1))) := hc
                by_cases c0 : L ≥ 0
                · have c1 : ¬ x.1 < 0 := fun h => hc ⟨c0, .inl h⟩
                  have c2 : ¬ L < x.1 := fun h => hc ⟨c0, .inr h⟩
                  clear hc
                  obtain ⟨_, TE, BE, _⟩ := HK.out _ A3.out
                  obtain ⟨t0, t1, t2, t3⟩ := TE.all2
                  have RX : Hid (BX 59 (put2 wr (w.heap.size + 1) (.int .i64 x.1) (.int .i64 x.2)) (w.heap.size + 1) #[.int .i64 x.1, .int .i64 x.2]) := TE.put2 _ _
                  have HX : Hid (Below w.heap.size w (put2 wr (w.heap.size + 1) (.int .i64 x.1) (.int .i64 x.2))) := below_put2 BE (by omega) _ _
                  have HQ : Hid (wakeJ (false, true) v s x false m = ⟨(x.1, x.2), false, 0⟩) := wakeJ_yes (y := (x.1, x.2)) H1.out H2.out HMA.out (weak_low (low_no HXB.out.1 HMN.out (by rw [HL.out]; exact HC.out)))
                  clear TE BE
                  go_wp2_with fail
                  obtain ⟨r0, r1, _⟩ := RX.out.all2
                  unfold put2 at r0 r1
                  exact bodyPost_ret (v := .tuple #[.agg #[.int .i64 x.1, .int .i64 x.2], .bool false, .int .i64 0]) (by simp [results, Try.results30, go_sem, r0, r1]) rfl (HE.out _ _ HQ.out HX.out)
                · clear hc
                  obtain ⟨_, TE, BE, _⟩ := HK.out _ A3.out
                  obtain ⟨t0, t1, t2, t3⟩ := TE.all2
                  have RX : Hid (BX 59 (put2 wr (w.heap.size + 1) (.int .i64 x.1) (.int .i64 x.2)) (w.heap.size + 1) #[.int .i64 x.1, .int .i64 x.2]) := TE.put2 _ _
                  have HX : Hid (Below w.heap.size w (put2 wr (w.heap.size + 1) (.int .i64 x.1) (.int .i64 x.2))) := below_put2 BE (by omega) _ _
                  have HQ : Hid (wakeJ (false, true) v s x false m = ⟨(x.1, x.2), false, 0⟩) := wakeJ_yes (y := (x.1, x.2)) H1.out H2.out HMA.out (weak_low (low_no HXB.out.1 HMN.out (by rw [HL.out]; exact HC.out)))
                  clear TE BE
                  go_wp2_with fail
                  obtain ⟨r0, r1, _⟩ := RX.out.all2
                  unfold put2 at r0 r1
                  exact bodyPost_ret (v := .tuple #[.agg #[.int .i64 x.1, .int .i64 x.2], .bool false, .int .i64 0]) (by simp [results, Try.results30, go_sem, r0, r1]) rfl (HE.out _ _ HQ.out HX.out)
            · obtain ⟨_, TE, BE, _⟩ := HK.out _ A3.out
              obtain ⟨t0, t1, t2, t3⟩ := TE.all2
              have RX : Hid (BX 59 (put2 wr (w.heap.size + 1) (.int .i64 v) (.int .i64 (-1))) (w.heap.size + 1) #[.int .i64 v, .int .i64 (-1)]) := TE.put2 _ _
              have HX : Hid (Below w.heap.size w (put2 wr (w.heap.size + 1) (.int .i64 v) (.int .i64 (-1)))) := below_put2 BE (by omega) _ _
              have HQ : Hid (wakeJ (false, true) v s x true m = ⟨(v, (-1)), true, 0⟩) := wakeJ_yes (y := (v, (-1))) H1.out H2.out HMA.out (rfl)
              clear TE BE
              go_wp2_with fail
              obtain ⟨r0, r1, _⟩ := RX.out.all2
              unfold put2 at r0 r1
              exact bodyPost_ret (v := .tuple #[.agg #[.int .i64 v, .int .i64 (-1)], .bool true, .int .i64 0]) (by simp [results, Try.results30, go_sem, r0, r1]) rfl (HE.out _ _ HQ.out HX.out)
          · intro HE HKK HPP H2 HTT HMA
            have hk : kk = 3 := HKK.out.symm
            have hp : pp = 0 := HPP.out.symm
            subst hk hp
            by_cases hl : x.2 = -1
            · have HLB : Hid (x.2 = -1) := hl
              have d9 : ¬ x.2 ≥ 0 := by omega
              clear hl
              cases b
              · by_cases hc : 0 ≤ L ∧ (x.1 < 0 ∨ L < x.1)
                · have HC : Hid (0 ≤ L ∧ (x.1 < 0 ∨ L < x.1)) := hc
                  have c0 : L ≥ 0 := hc.1
                  by_cases c1 : x.1 < 0
                  · clear hc
                    obtain ⟨_, TE, BE, _⟩ := HK.out _ A3.out
                    obtain ⟨t0, t1, t2, t3⟩ := TE.all2
                    have RX : Hid (BX 59 (put2 wr (w.heap.size + 1) (.int .i64 L) (.int .i64 x.2)) (w.heap.size + 1) #[.int .i64 L, .int .i64 x.2]) := TE.put2 _ _
                    have HX : Hid (Below w.heap.size w (put2 wr (w.heap.size + 1) (.int .i64 L) (.int .i64 x.2))) := below_put2 BE (by omega) _ _
                    have HQ : Hid (wakeJ (true, false) v s x false m = ⟨(L, x.2), true, 0⟩) := wakeJ_yes (y := (L, x.2)) H1.out H2.out HMA.out (fwd_low HLB.out (by have := low_yes HXB.out.1 HMN.out (by rw [HL.out]; exact HC.out); rwa [HL.out] at this))
                    clear TE BE
                    go_wp2_with fail
                    obtain ⟨r0, r1, _⟩ := RX.out.all2
                    unfold put2 at r0 r1
                    exact bodyPost_ret (v := .tuple #[.agg #[.int .i64 L, .int .i64 x.2], .bool true, .int .i64 0]) (by simp [results, Try.results30, go_sem, r0, r1]) rfl (HE.out _ _ HQ.out HX.out)
                  · have c2 : L < x.1 := by rcases hc.2 with h | h; exact absurd h c1; exact h
                    clear hc
                    obtain ⟨_, TE, BE, _⟩ := HK.out _ A3.out
                    obtain ⟨t0, t1, t2, t3⟩ := TE.all2
                    have RX : Hid (BX 59 (put2 wr (w.heap.size + 1) (.int .i64 L) (.int .i64 x.2)) (w.heap.size + 1) #[.int .i64 L, .int .i64 x.2]) := TE.put2 _ _
                    have HX : Hid (Below w.heap.size w (put2 wr (w.heap.size + 1) (.int .i64 L) (.int .i64 x.2))) := below_put2 BE (by omega) _ _
                    have HQ : Hid (wakeJ (true, false) v s x false m = ⟨(L, x.2), true, 0⟩) := wakeJ_yes (y := (L, x.2)) H1.out H2.out HMA.out (fwd_low HLB.out (by have := low_yes HXB.out.1 HMN.out (by rw [HL.out]; exact HC.out); rwa [HL.out] at this))
                    clear TE BE
                    go_wp2_with fail
                    obtain ⟨r0, r1, _⟩ := RX.out.all2
                    unfold put2 at r0 r1
                    exact bodyPost_ret (v := .tuple #[.agg #[.int .i64 L, .int .i64 x.2], .bool true, .int .i64 0]) (by simp [results, Try.results30, go_sem, r0, r1]) rfl (HE.out _ _ HQ.out HX.out)
                · have HC : Hid (¬ (0 ≤ L ∧ (x.1 < 0 ∨ L < x.1))) := hc
                  by_cases c0 : L ≥ 0
                  · have c1 : ¬ x.1 < 0 := fun h => hc ⟨c0, .inl h⟩
                    have c2 : ¬ L < x.1 := fun h => hc ⟨c0, .inr h⟩
                    clear hc
                    obtain ⟨_, TE, BE, _⟩ := HK.out _ A3.out
                    obtain ⟨t0, t1, t2, t3⟩ := TE.all2
                    have RX : Hid (BX 59 (put2 wr (w.heap.size + 1) (.int .i64 x.1) (.int .i64 x.2)) (w.heap.size + 1) #[.int .i64 x.1, .int .i64 x.2]) := TE.put2 _ _
                    have HX : Hid (Below w.heap.size w (put2 wr (w.heap.size + 1) (.int .i64 x.1) (.int .i64 x.2))) := below_put2 BE (by omega) _ _
                    have HQ : Hid (wakeJ (true, false) v s x false m = ⟨(x.1, x.2), false, 0⟩) := wakeJ_yes (y := (x.1, x.2)) H1.out H2.out HMA.out (fwd_low HLB.out (low_no HXB.out.1 HMN.out (by rw [HL.out]; exact HC.out)))
                    clear TE BE
                    go_wp2_with fail
                    obtain ⟨r0, r1, _⟩ := RX.out.all2
                    unfold put2 at r0 r1
                    exact bodyPost_ret (v := .tuple #[.agg #[.int .i64 x.1, .int .i64 x.2], .bool false, .int .i64 0]) (by simp [results, Try.results30, go_sem, r0, r1]) rfl (HE.out _ _ HQ.out HX.out)
                  · clear hc
                    obtain ⟨_, TE, BE, _⟩ := HK.out _ A3.out
                    obtain ⟨t0, t1, t2, t3⟩ := TE.all2
                    have RX : Hid (BX 59 (put2 wr (w.heap.size + 1) (.int .i64 x.1) (.int .i64 x.2)) (w.heap.size + 1) #[.int .i64 x.1, .int .i64 x.2]) := TE.put2 _ _
                    have HX : Hid (Below w.heap.size w (put2 wr (w.heap.size + 1) (.int .i64 x.1) (.int .i64 x.2))) := below_put2 BE (by omega) _ _
                    have HQ : Hid (wakeJ (true, false) v s x false m = ⟨(x.1, x.2), false, 0⟩) := wakeJ_yes (y := (x.1, x.2)) H1.out H2.out HMA.out (fwd_low HLB.out (low_no HXB.out.1 HMN.out (by rw [HL.out]; exact HC.out)))
                    clear TE BE
                    go_wp2_with fail
                    obtain ⟨r0, r1, _⟩ := RX.out.all2
                    unfold put2 at r0 r1
                    exact bodyPost_ret (v := .tuple #[.agg #[.int .i64 x.1, .int .i64 x.2], .bool false, .int .i64 0]) (by simp [results, Try.results30, go_sem, r0, r1]) rfl (HE.out _ _ HQ.out HX.out)
              · obtain ⟨_, TE, BE, _⟩ := HK.out _ A3.out
                obtain ⟨t0, t1, t2, t3⟩ := TE.all2
                have RX : Hid (BX 59 (put2 wr (w.heap.size + 1) (.int .i64 v) (.int .i64 (-1))) (w.heap.size + 1) #[.int .i64 v, .int .i64 (-1)]) := TE.put2 _ _
                have HX : Hid (Below w.heap.size w (put2 wr (w.heap.size + 1) (.int .i64 v) (.int .i64 (-1)))) := below_put2 BE (by omega) _ _
                have HQ : Hid (wakeJ (true, false) v s x true m = ⟨(v, (-1)), true, 0⟩) := wakeJ_yes (y := (v, (-1))) H1.out H2.out HMA.out (fwd_new HLB.out)
                clear TE BE
                go_wp2_with fail
                obtain ⟨r0, r1, _⟩ := RX.out.all2
                unfold put2 at r0 r1
                exact bodyPost_ret (v := .tuple #[.agg #[.int .i64 v, .int .i64 (-1)], .bool true, .int .i64 0]) (by simp [results, Try.results30, go_sem, r0, r1]) rfl (HE.out _ _ HQ.out HX.out)
            · have HLB : Hid (¬ x.2 = -1) := hl
              have d9 : x.2 ≥ 0 := by have := HXB.out.2; omega
              clear hl
              obtain ⟨_, TE, BE, _⟩ := HK.out _ A3.out
              obtain ⟨t0, t1, t2, t3⟩ := TE.all2
              have RX : Hid (BX 59 (put2 wr (w.heap.size + 1) (.int .i64 x.1) (.int .i64 x.2)) (w.heap.size + 1) #[.int .i64 x.1, .int .i64 x.2]) := TE.put2 _ _
              have HX : Hid (Below w.heap.size w (put2 wr (w.heap.size + 1) (.int .i64 x.1) (.int .i64 x.2))) := below_put2 BE (by omega) _ _
              have HQ : Hid (wakeJ (true, false) v s x b m = ⟨(x.1, x.2), false, 0⟩) := wakeJ_yes (y := (x.1, x.2)) H1.out H2.out HMA.out (strong_stays HLB.out)
              clear TE BE
              go_wp2_with fail
              obtain ⟨r0, r1, _⟩ := RX.out.all2
              unfold put2 at r0 r1
              exact bodyPost_ret (v := .tuple #[.agg #[.int .i64 x.1, .int .i64 x.2], .bool false, .int .i64 0]) (by simp [results, Try.results30, go_sem, r0, r1]) rfl (HE.out _ _ HQ.out HX.out)
          · intro HE HKK HPP H2 HTT HMA
            have hk : kk = 3 := HKK.out.symm
            have hp : pp = 1 := HPP.out.symm
            subst hk hp
            by_cases hl : x.2 = -1
            · have HLB : Hid (x.2 = -1) := hl
              have d9 : ¬ x.2 ≥ 0 := by omega
              clear hl
              cases b
              · have HST : Hid (hereB false x v (m.take 0) = false) := by show hereB false x v (m.take 0) = false; simp [hereB, hasB]
                go_wp2_with fail
                go_loopw [19, 20] (fun u i wr => ∃ (k : Nat) (t : Bool), k ≤ m.length ∧ i = .int .i64 k ∧ u = .bool t ∧ hereB false x v (m.take k) = t ∧ Below W0.heap.size W0 wr) (fun _ i _ => m.length - (intOf i).toNat)
                case atStart => exact ⟨0, false, by omega, rfl, rfl, HST.out, A3.out⟩
                case round =>
                  obtain ⟨k, t, hk, rfl, rfl, ht, hb⟩ := hrel
                  have HT : Hid (hereB false x v (m.take k) = t) := ht
                  have A6 : Hid (Below W0.heap.size W0 wr) := hb
                  clear ht hb q0 q1
                  obtain ⟨Q6, _, _, R6⟩ := HK.out _ A6.out
                  obtain ⟨q0, q1, _⟩ := Q6.all2
                  clear Q6
                  by_cases hlt : k < m.length
                  · obtain ⟨xa, oa, cap', e1, _, _, la, hva⟩ := InR.at R6 (by omega)
                    injection e1 with e1 _ e3
                    subst e1 e3
                    obtain ⟨y, hy⟩ := getX hlt
                    have p0 : (0 : Int) ≤ (k : Int) := by omega
                    have p1 : (k : Int) < (m.length : Int) := by omega
                    have c1 := hva k y hy
                    have HY : Hid (m[k]? = some y) := hy
                    clear hva hy R6
                    cases t
                    · by_cases ey : y = x.1
                      · have d1 : (y == x.1) = true := by simpa using ey
                        have HF : Hid (hereB false x v (m.take (k + 1)) = true) := by
                          show hereB false x v (m.take (k + 1)) = true
                          have := HT.out
                          unfold hereB at this ⊢
                          rw [hasB_snoc HY.out]
                          rw [d1]
                          simp
                        go_wp2_with fail
                        go_quiet (fail)
                        go_wp2_with fail
                        go_roundw
                        case rel => exact ⟨k + 1, true, by omega, by go_num, rfl, HF.out, below_drewN A6.out _⟩
                        case measure => simp [intOf]; omega
                      · have d1 : (y == x.1) = false := by simpa using ey
                        clear ey
                        have HF : Hid (hereB false x v (m.take (k + 1)) = false) := by
                          show hereB false x v (m.take (k + 1)) = false
                          have := HT.out
                          unfold hereB at this ⊢
                          rw [hasB_snoc HY.out]
                          rw [d1]
                          simpa using this
                        go_wp2_with fail
                        go_quiet (fail)
                        go_wp2_with fail
                        go_roundw
                        case rel => exact ⟨k + 1, false, by omega, by go_num, rfl, HF.out, below_drewN A6.out _⟩
                        case measure => simp [intOf]; omega
                    · have HF : Hid (hereB false x v (m.take (k + 1)) = true) := by
                        show hereB false x v (m.take (k + 1)) = true
                        have := HT.out
                        unfold hereB at this ⊢
                        rw [hasB_snoc HY.out]
                        have h2 : hasB (m.take k) x.1 = true := by simpa using this
                        rw [h2]
                        simp
                      go_wp2_with fail
                      go_quiet (fail)
                      go_wp2_with fail
                      go_roundw
                      case rel => exact ⟨k + 1, true, by omega, by go_num, rfl, HF.out, below_drewN A6.out _⟩
                      case measure => simp [intOf]; omega
                  · have HF : Hid (hereB false x v m = t) := by
                      show hereB false x v m = t
                      have := HT.out
                      rwa [List.take_of_length_le (by omega)] at this
                    clear R6
                    cases t
                    · obtain ⟨_, TE, BE, _⟩ := HK.out _ A6.out
                      obtain ⟨t0, t1, t2, t3⟩ := TE.all2
                      have RX : Hid (BX 59 (put2 wr (w.heap.size + 1) (.int .i64 x.1) (.int .i64 x.2)) (w.heap.size + 1) #[.int .i64 x.1, .int .i64 x.2]) := TE.put2 _ _
                      have HX : Hid (Below w.heap.size w (put2 wr (w.heap.size + 1) (.int .i64 x.1) (.int .i64 x.2))) := below_put2 BE (by omega) _ _
                      have HQ : Hid (wakeJ (true, true) v s x false m = ⟨(x.1, x.2), false, 0⟩) := wakeJ_yes (y := (x.1, x.2)) H1.out H2.out HMA.out (by rw [back_eq HLB.out]; exact labF_no HF.out)
                      clear TE BE
                      go_wp2_with fail
                      obtain ⟨r0, r1, _⟩ := RX.out.all2
                      unfold put2 at r0 r1
                      exact bodyPost_ret (v := .tuple #[.agg #[.int .i64 x.1, .int .i64 x.2], .bool false, .int .i64 0]) (by simp [results, Try.results30, go_sem, r0, r1]) rfl (HE.out _ _ HQ.out HX.out)
                    · obtain ⟨_, TE, BE, _⟩ := HK.out _ A6.out
                      obtain ⟨t0, t1, t2, t3⟩ := TE.all2
                      have RX : Hid (BX 59 (put2 wr (w.heap.size + 1) (.int .i64 x.1) (.int .i64 x.1)) (w.heap.size + 1) #[.int .i64 x.1, .int .i64 x.1]) := TE.put2 _ _
                      have HX : Hid (Below w.heap.size w (put2 wr (w.heap.size + 1) (.int .i64 x.1) (.int .i64 x.1))) := below_put2 BE (by omega) _ _
                      have HQ : Hid (wakeJ (true, true) v s x false m = ⟨(x.1, x.1), true, 0⟩) := wakeJ_yes (y := (x.1, x.1)) H1.out H2.out HMA.out (by rw [back_eq HLB.out]; exact labF_of HF.out)
                      clear TE BE
                      go_wp2_with fail
                      obtain ⟨r0, r1, _⟩ := RX.out.all2
                      unfold put2 at r0 r1
                      exact bodyPost_ret (v := .tuple #[.agg #[.int .i64 x.1, .int .i64 x.1], .bool true, .int .i64 0]) (by simp [results, Try.results30, go_sem, r0, r1]) rfl (HE.out _ _ HQ.out HX.out)
              · obtain ⟨h0, hh0⟩ : ∃ h0, (x.1 == v) = h0 := ⟨_, rfl⟩
                have HST : Hid (hereB true x v (m.take 0) = h0) := by show hereB true x v (m.take 0) = h0; rw [← hh0]; simp [hereB, hasB]
                go_wp2_with fail
                go_loopw [19, 20] (fun u i wr => ∃ (k : Nat) (t : Bool), k ≤ m.length ∧ i = .int .i64 k ∧ u = .bool t ∧ hereB true x v (m.take k) = t ∧ Below W0.heap.size W0 wr) (fun _ i _ => m.length - (intOf i).toNat)
                case atStart => exact ⟨0, h0, by omega, rfl, rfl, HST.out, A3.out⟩
                case round =>
                  obtain ⟨k, t, hk, rfl, rfl, ht, hb⟩ := hrel
                  have HT : Hid (hereB true x v (m.take k) = t) := ht
                  have A6 : Hid (Below W0.heap.size W0 wr) := hb
                  clear ht hb q0 q1
                  obtain ⟨Q6, _, _, R6⟩ := HK.out _ A6.out
                  obtain ⟨q0, q1, _⟩ := Q6.all2
                  clear Q6
                  by_cases hlt : k < m.length
                  · obtain ⟨xa, oa, cap', e1, _, _, la, hva⟩ := InR.at R6 (by omega)
                    injection e1 with e1 _ e3
                    subst e1 e3
                    obtain ⟨y, hy⟩ := getX hlt
                    have p0 : (0 : Int) ≤ (k : Int) := by omega
                    have p1 : (k : Int) < (m.length : Int) := by omega
                    have c1 := hva k y hy
                    have HY : Hid (m[k]? = some y) := hy
                    clear hva hy R6
                    cases t
                    · have HF : Hid (hereB true x v (m.take (k + 1)) = false) := by
                        show hereB true x v (m.take (k + 1)) = false
                        have := HT.out
                        unfold hereB at this ⊢
                        rw [hasB_snoc HY.out]
                        simpa using this
                      go_wp2_with fail
                      go_quiet (fail)
                      go_wp2_with fail
                      go_roundw
                      case rel => exact ⟨k + 1, false, by omega, by go_num, rfl, HF.out, below_drewN A6.out _⟩
                      case measure => simp [intOf]; omega
                    · have HF : Hid (hereB true x v (m.take (k + 1)) = true) := by
                        show hereB true x v (m.take (k + 1)) = true
                        have := HT.out
                        unfold hereB at this ⊢
                        rw [hasB_snoc HY.out]
                        simpa using this
                      go_wp2_with fail
                      go_quiet (fail)
                      go_wp2_with fail
                      go_roundw
                      case rel => exact ⟨k + 1, true, by omega, by go_num, rfl, HF.out, below_drewN A6.out _⟩
                      case measure => simp [intOf]; omega
                  · have HF : Hid (hereB true x v m = t) := by
                      show hereB true x v m = t
                      have := HT.out
                      rwa [List.take_of_length_le (by omega)] at this
                    clear R6
                    cases t
                    · obtain ⟨_, TE, BE, _⟩ := HK.out _ A6.out
                      obtain ⟨t0, t1, t2, t3⟩ := TE.all2
                      have RX : Hid (BX 59 (put2 wr (w.heap.size + 1) (.int .i64 x.1) (.int .i64 x.2)) (w.heap.size + 1) #[.int .i64 x.1, .int .i64 x.2]) := TE.put2 _ _
                      have HX : Hid (Below w.heap.size w (put2 wr (w.heap.size + 1) (.int .i64 x.1) (.int .i64 x.2))) := below_put2 BE (by omega) _ _
                      have HQ : Hid (wakeJ (true, true) v s x true m = ⟨(x.1, x.2), false, 0⟩) := wakeJ_yes (y := (x.1, x.2)) H1.out H2.out HMA.out (by rw [back_eq HLB.out]; exact labF_no HF.out)
                      clear TE BE
                      go_wp2_with fail
                      obtain ⟨r0, r1, _⟩ := RX.out.all2
                      unfold put2 at r0 r1
                      exact bodyPost_ret (v := .tuple #[.agg #[.int .i64 x.1, .int .i64 x.2], .bool false, .int .i64 0]) (by simp [results, Try.results30, go_sem, r0, r1]) rfl (HE.out _ _ HQ.out HX.out)
                    · obtain ⟨_, TE, BE, _⟩ := HK.out _ A6.out
                      obtain ⟨t0, t1, t2, t3⟩ := TE.all2
                      have RX : Hid (BX 59 (put2 wr (w.heap.size + 1) (.int .i64 x.1) (.int .i64 x.1)) (w.heap.size + 1) #[.int .i64 x.1, .int .i64 x.1]) := TE.put2 _ _
                      have HX : Hid (Below w.heap.size w (put2 wr (w.heap.size + 1) (.int .i64 x.1) (.int .i64 x.1))) := below_put2 BE (by omega) _ _
                      have HQ : Hid (wakeJ (true, true) v s x true m = ⟨(x.1, x.1), true, 0⟩) := wakeJ_yes (y := (x.1, x.1)) H1.out H2.out HMA.out (by rw [back_eq HLB.out]; exact labF_of HF.out)
                      clear TE BE
                      go_wp2_with fail
                      obtain ⟨r0, r1, _⟩ := RX.out.all2
                      unfold put2 at r0 r1
                      exact bodyPost_ret (v := .tuple #[.agg #[.int .i64 x.1, .int .i64 x.1], .bool true, .int .i64 0]) (by simp [results, Try.results30, go_sem, r0, r1]) rfl (HE.out _ _ HQ.out HX.out)
            · have HLB : Hid (¬ x.2 = -1) := hl
              have d9 : x.2 ≥ 0 := by have := HXB.out.2; omega
              clear hl
              obtain ⟨_, TE, BE, _⟩ := HK.out _ A3.out
              obtain ⟨t0, t1, t2, t3⟩ := TE.all2
              have RX : Hid (BX 59 (put2 wr (w.heap.size + 1) (.int .i64 x.1) (.int .i64 x.2)) (w.heap.size + 1) #[.int .i64 x.1, .int .i64 x.2]) := TE.put2 _ _
              have HX : Hid (Below w.heap.size w (put2 wr (w.heap.size + 1) (.int .i64 x.1) (.int .i64 x.2))) := below_put2 BE (by omega) _ _
              have HQ : Hid (wakeJ (true, true) v s x b m = ⟨(x.1, x.2), false, 0⟩) := wakeJ_yes (y := (x.1, x.2)) H1.out H2.out HMA.out (strong_stays HLB.out)
              clear TE BE
              go_wp2_with fail
              obtain ⟨r0, r1, _⟩ := RX.out.all2
              unfold put2 at r0 r1
              exact bodyPost_ret (v := .tuple #[.agg #[.int .i64 x.1, .int .i64 x.2], .bool false, .int .i64 0]) (by simp [results, Try.results30, go_sem, r0, r1]) rfl (HE.out _ _ HQ.out HX.out)
theorem woken_any (k v s : Int) (x : Ml) (p : Int) (b : Bool) (m : List Int) (vm : Value) (w : World) (hm : InR w vm m) :
    Calls Try.prog 30 #[.int .i64 k, .int .i64 v, .int .i64 s, .agg #[.int .i64 x.1, .int .i64 x.2], .int .i64 p, .bool b, vm] w (WokP w (wakeF k v s x p b m)) := by
  rcases jobF_cases k p with h | ⟨j, rfl, rfl⟩
  · exact woken_none vm h w hm
  · rw [wakeF_of]
    exact woken_job j v s x b m vm w hm
end Go.Proofs.Ytbmkgnlfccigpaa
