/-
  Contract of the document's own Said.
-/
import Derived.Test.YtbmkgnlfccigpaaRefProg
namespace Go.Proofs.Ytbmkgnlfccigpaa
set_option maxRecDepth 100000
open Go.ChangeShapes Go.WideShapes Go.ChangeAt Go.RowKit

set_option maxHeartbeats 2000000 in
set_option maxRecDepth 100000 in
theorem said_none {k p n : Int} {x : Ml} (h : jobF k p = none ∧ ¬ (k = 1 ∧ p = 0) ∧ ¬ (k = 2 ∧ p = 0) ∧ ¬ (k = 3 ∧ p = 0) ∧ ¬ (k = 3 ∧ p = 1)) (w : World) :
    Calls Try.prog 32 #[.int .i64 k, .agg #[.int .i64 x.1, .int .i64 x.2], .int .i64 p, .int .i64 n] w fun e w' => e = .returned (.tuple #[.int .i64 (saidF k x p n).1, .int .i64 (saidF k x p n).2]) ∧ Below w.heap.size w w' := by
  rw [saidF_none h.1]
  have HC : Hid (∀ X, Calls Try.prog 53 #[.int .i64 k, .int .i64 p] X fun e w' => e = .returned (.bool false) ∧ w' = X) := fun X => kindMay_none h.2 X
  have HB : Hid (∀ o, Below w.heap.size w (w.alloc o)) := fun o => below_alloc w o
  clear h
  go_enter Try.func32, Try.ntmps32
  go_wp2_with fail
  refine (HC.out _).mono ?_
  rintro e w1 ⟨rfl, hw⟩
  replace hw := hw.symm
  subst hw
  go_wp2_with fail
  go_ret2
  exact ⟨rfl, HB.out _⟩

theorem jb_dist : ∀ j : Jb, (j = (false, false)) ∨ ((Jb.k j != 1) = true ∧ (∀ a n, sayJ j a n = a)) := jb_cases (.inl rfl) (.inr ⟨rfl, fun _ _ => rfl⟩) (.inr ⟨rfl, fun _ _ => rfl⟩) (.inr ⟨rfl, fun _ _ => rfl⟩)

set_option maxHeartbeats 4000000 in
set_option maxRecDepth 100000 in
theorem said_job (j : Jb) (x : Ml) (n : Int) (w : World) :
    Calls Try.prog 32 #[.int .i64 (Jb.k j), .agg #[.int .i64 x.1, .int .i64 x.2], .int .i64 (Jb.p j), .int .i64 n] w fun e w' => e = .returned (.tuple #[.int .i64 (saidJ j x n).1, .int .i64 (saidJ j x n).2]) ∧ Below w.heap.size w w' := by
  have CJ : Hid (∀ X, Calls Try.prog 53 #[.int .i64 (Jb.k j), .int .i64 (Jb.p j)] X fun e w' => e = .returned (.bool true) ∧ w' = X) := fun X => kindMay_any j X
  have CV : Hid (∀ X, Calls Try.prog 54 #[.int .i64 (Jb.k j), .agg #[.int .i64 x.1, .int .i64 x.2]] X fun e w' => e = .returned (.bool (valB j x)) ∧ Below X.heap.size X w') := fun X => valueMay_any j x X
  have CW : Hid (∀ X, Calls Try.prog 52 #[.int .i64 n, .int .i64 0, .int .i64 1099511627776] X fun e w' => e = .returned (.bool (inB n 0 1099511627776)) ∧ w' = X) := fun X => in_any n 0 _ X
  obtain ⟨W0, hW0⟩ : ∃ W0, W0 = w.alloc (.cells #[.int .i64 x.1, .int .i64 x.2] 59) := ⟨_, rfl⟩
  have Q0 : BX 59 W0 w.heap.size #[.int .i64 x.1, .int .i64 x.2] := by rw [hW0]; exact BX.new _ _ _
  have BH : Hid (Below w.heap.size w W0) := by show Below _ _ _; rw [hW0]; exact below_alloc _ _
  have s1 : w.heap.size + 1 ≤ W0.heap.size := by rw [hW0]; simp
  have HK : Hid (∀ X, Below W0.heap.size W0 X → BX 59 X w.heap.size #[.int .i64 x.1, .int .i64 x.2] ∧ Below w.heap.size w X) := fun X hX => ⟨Q0.below hX (by omega), BH.out.trans (hX.mono (by omega))⟩
  obtain ⟨q0, q1, _⟩ := Q0.all2
  clear Q0
  cases h1 : valB j x
  · have HW : saidJ j x n = (0, 2) := by unfold saidJ; rw [h1]; simp
    rw [HW]
    rw [h1] at CV
    generalize Jb.k j = kk at *
    generalize Jb.p j = pp at *
    clear HW h1
    go_enter Try.func32, Try.ntmps32
    go_upto_region 1 with fail
    rw [← hW0]
    clear hW0
    go_wp2_with fail
    refine (CJ.out _).mono ?_
    rintro e w1 ⟨rfl, hw⟩
    replace hw := hw.symm
    subst hw
    go_wp2_with fail
    refine (CV.out _).mono ?_
    rintro e w2 ⟨rfl, hb2⟩
    have B2 : Hid (Below w.heap.size w w2) := (HK.out _ hb2).2
    clear hb2 q0 q1
    go_wp2_with fail
    go_ret2
    exact ⟨rfl, B2.out⟩
  · have hxb : -1 ≤ x.1 ∧ x.1 ≤ Jb.top j := by
      unfold valB at h1
      rw [Bool.and_eq_true] at h1
      exact inB_iff.1 h1.1
    by_cases h2 : x.1 = -1
    · have HW : saidJ j x n = (0, 2) := by unfold saidJ; rw [h1]; simp [h2]
      rw [HW]
      rw [h1] at CV
      have d2 : x.1 < 0 := by omega
      generalize Jb.k j = kk at *
      generalize Jb.p j = pp at *
      clear HW h1 h2 hxb
      go_enter Try.func32, Try.ntmps32
      go_upto_region 1 with fail
      rw [← hW0]
      clear hW0
      go_wp2_with fail
      refine (CJ.out _).mono ?_
      rintro e w1 ⟨rfl, hw⟩
      replace hw := hw.symm
      subst hw
      go_wp2_with fail
      refine (CV.out _).mono ?_
      rintro e w2 ⟨rfl, hb2⟩
      obtain ⟨Q2, b2⟩ := HK.out _ hb2
      have B2 : Hid (Below w.heap.size w w2) := b2
      clear hb2 q0 q1 b2
      obtain ⟨q0, q1, _⟩ := Q2.all2
      clear Q2
      go_wp2_with fail
      go_ret2
      exact ⟨rfl, B2.out⟩
    · have d2 : ¬ x.1 < 0 := by omega
      cases h3 : inB n 0 1099511627776
      · have HW : saidJ j x n = (0, 2) := by unfold saidJ; rw [h1, h3]; simp
        rw [HW]
        rw [h1] at CV
        rw [h3] at CW
        generalize Jb.k j = kk at *
        generalize Jb.p j = pp at *
        clear HW h1 h2 h3 hxb
        go_enter Try.func32, Try.ntmps32
        go_upto_region 1 with fail
        rw [← hW0]
        clear hW0
        go_wp2_with fail
        refine (CJ.out _).mono ?_
        rintro e w1 ⟨rfl, hw⟩
        replace hw := hw.symm
        subst hw
        go_wp2_with fail
        refine (CV.out _).mono ?_
        rintro e w2 ⟨rfl, hb2⟩
        obtain ⟨Q2, b2⟩ := HK.out _ hb2
        have B2 : Hid (Below w.heap.size w w2) := b2
        clear hb2 q0 q1 b2
        obtain ⟨q0, q1, _⟩ := Q2.all2
        clear Q2
        go_wp2_with fail
        refine (CW.out _).mono ?_
        rintro e w3 ⟨rfl, hw⟩
        replace hw := hw.symm
        subst hw
        go_wp2_with fail
        go_ret2
        exact ⟨rfl, B2.out⟩
      · have hnb := inB_iff.1 h3
        have HW : saidJ j x n = if sayJ j x.1 n ≤ Jb.top j then (sayJ j x.1 n, 0) else (0, 6) := by unfold saidJ; rw [h1, h3]; simp [h2]
        rw [HW]
        rw [h1] at CV
        rw [h3] at CW
        clear HW h1 h3
        rcases jb_dist j with rfl | ⟨hk1, hsay⟩
        · have ht : Jb.top (false, false) = 4398046511104 := rfl
          rw [ht] at hxb ⊢
          have hs : sayJ (false, false) x.1 n = x.1 + n := rfl
          rw [hs]
          have hk : Jb.k (false, false) = 1 := rfl
          rw [hk] at CJ CV ⊢
          generalize Jb.p (false, false) = pp at *
          have wn : IntKind.i64.wrap (x.1 + n) = x.1 + n := wrap_id64 (by omega) (by omega)
          clear ht hs hk
          by_cases h4 : x.1 + n ≤ 4398046511104
          · rw [if_pos h4]
            have d4 : ¬ x.1 + n > 4398046511104 := by omega
            clear h4 h2 hxb hnb
            go_enter Try.func32, Try.ntmps32
            go_upto_region 1 with fail
            rw [← hW0]
            clear hW0
            go_wp2_with fail
            refine (CJ.out _).mono ?_
            rintro e w1 ⟨rfl, hw⟩
            replace hw := hw.symm
            subst hw
            go_wp2_with fail
            refine (CV.out _).mono ?_
            rintro e w2 ⟨rfl, hb2⟩
            obtain ⟨Q2, b2⟩ := HK.out _ hb2
            have B2 : Hid (Below w.heap.size w w2) := b2
            clear hb2 q0 q1 b2
            obtain ⟨q0, q1, _⟩ := Q2.all2
            clear Q2
            go_wp2_with fail
            refine (CW.out _).mono ?_
            rintro e w3 ⟨rfl, hw⟩
            replace hw := hw.symm
            subst hw
            go_wp2_with fail
            go_ret2
            exact ⟨rfl, B2.out⟩
          · rw [if_neg h4]
            have d4 : x.1 + n > 4398046511104 := by omega
            clear h4 h2 hxb hnb
            go_enter Try.func32, Try.ntmps32
            go_upto_region 1 with fail
            rw [← hW0]
            clear hW0
            go_wp2_with fail
            refine (CJ.out _).mono ?_
            rintro e w1 ⟨rfl, hw⟩
            replace hw := hw.symm
            subst hw
            go_wp2_with fail
            refine (CV.out _).mono ?_
            rintro e w2 ⟨rfl, hb2⟩
            obtain ⟨Q2, b2⟩ := HK.out _ hb2
            have B2 : Hid (Below w.heap.size w w2) := b2
            clear hb2 q0 q1 b2
            obtain ⟨q0, q1, _⟩ := Q2.all2
            clear Q2
            go_wp2_with fail
            refine (CW.out _).mono ?_
            rintro e w3 ⟨rfl, hw⟩
            replace hw := hw.symm
            subst hw
            go_wp2_with fail
            go_ret2
            exact ⟨rfl, B2.out⟩
        · rw [hsay, if_pos hxb.2]
          generalize Jb.k j = kk at *
          generalize Jb.p j = pp at *
          clear h2 hxb hnb hsay
          go_enter Try.func32, Try.ntmps32
          go_upto_region 1 with fail
          rw [← hW0]
          clear hW0
          go_wp2_with fail
          refine (CJ.out _).mono ?_
          rintro e w1 ⟨rfl, hw⟩
          replace hw := hw.symm
          subst hw
          go_wp2_with fail
          refine (CV.out _).mono ?_
          rintro e w2 ⟨rfl, hb2⟩
          obtain ⟨Q2, b2⟩ := HK.out _ hb2
          have B2 : Hid (Below w.heap.size w w2) := b2
          clear hb2 q0 q1 b2
          obtain ⟨q0, q1, _⟩ := Q2.all2
          clear Q2
          go_wp2_with fail
          refine (CW.out _).mono ?_
          rintro e w3 ⟨rfl, hw⟩
          replace hw := hw.symm
          subst hw
          go_wp2_with fail
          go_ret2
          exact ⟨rfl, B2.out⟩
theorem said_any (k : Int) (x : Ml) (p n : Int) (w : World) :
    Calls Try.prog 32 #[.int .i64 k, .agg #[.int .i64 x.1, .int .i64 x.2], .int .i64 p, .int .i64 n] w fun e w' => e = .returned (.tuple #[.int .i64 (saidF k x p n).1, .int .i64 (saidF k x p n).2]) ∧ Below w.heap.size w w' := by
  rcases jobF_cases k p with h | ⟨j, rfl, rfl⟩
  · exact said_none h w
  · rw [saidF_of]
    exact said_job j x n w
end Go.Proofs.Ytbmkgnlfccigpaa
