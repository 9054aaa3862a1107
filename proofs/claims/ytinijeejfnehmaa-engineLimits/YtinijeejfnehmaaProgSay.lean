/-
  Contract of prog.Say.
-/
import Derived.Test.YtinijeejfnehmaaProgFace
namespace Go.Proofs.Ytinijeejfnehmaa
set_option maxRecDepth 100000
open Go.ChangeShapes Go.WideShapes Go.ChangeAt Go.RowKit

theorem top_le : ∀ j : Jb, Jb.top j ≤ 4398046511104 := jb_cases (by decide) (by decide) (by decide) (by decide)

set_option maxHeartbeats 2000000 in
set_option maxRecDepth 100000 in
theorem say_none {k p n : Int} {x : Ml} (h : jobF k p = none ∧ ¬ (k = 1 ∧ p = 0) ∧ ¬ (k = 2 ∧ p = 0) ∧ ¬ (k = 3 ∧ p = 0) ∧ ¬ (k = 3 ∧ p = 1)) (w : World) :
    Calls Try.prog 49 #[.int .i64 k, .agg #[.int .i64 x.1, .int .i64 x.2], .int .i64 p, .int .i64 n] w (SayP w (saidF k x p n)) := by
  rw [saidF_none h.1]
  have HC : Hid (∀ X, Calls Try.prog 35 #[.int .i64 k, .int .i64 p] X fun e w' => e = .returned (.tuple #[.nilIface, .int .i64 3]) ∧ w' = X) := fun X => jobOf_none h.2 X
  have HB : Hid (∀ o, Below w.heap.size w (w.alloc o)) := fun o => below_alloc w o
  unfold SayP
  clear h
  go_enter Try.func49, Try.ntmps49
  go_wp2_with fail
  refine (HC.out _).mono ?_
  rintro e w1 ⟨rfl, hw⟩
  replace hw := hw.symm
  subst hw
  go_wp2_with fail
  go_ret2
  exact ⟨rfl, HB.out _⟩

set_option maxHeartbeats 4000000 in
set_option maxRecDepth 100000 in
theorem say_job (j : Jb) (x : Ml) (n : Int) (w : World) :
    Calls Try.prog 49 #[.int .i64 (Jb.k j), .agg #[.int .i64 x.1, .int .i64 x.2], .int .i64 (Jb.p j), .int .i64 n] w (SayP w (saidJ j x n)) := by
  have CJ : Hid (∀ X, Calls Try.prog 35 #[.int .i64 (Jb.k j), .int .i64 (Jb.p j)] X fun e w' => e = .returned (.tuple #[Jb.v j, .int .i64 0]) ∧ w' = X) := fun X => jobOf_any j X
  have CV : Hid (∀ X, Calls Try.prog 57 #[Jb.v j, .agg #[.int .i64 x.1, .int .i64 x.2]] X fun e w' => e = .returned (.bool (valB j x)) ∧ Below X.heap.size X w') := fun X => valueMayBe_any j x X
  have CW : Hid (∀ X, Calls Try.prog 58 #[.int .i64 n, .int .i64 0, .int .i64 1099511627776] X fun e w' => e = .returned (.bool (inB n 0 1099511627776)) ∧ w' = X) := fun X => pwithin_any n 0 _ X
  obtain ⟨t, u, hv, _, ⟨fg, rg, ⟨hmg, heg⟩, hFG⟩, _, ⟨fs, rs, ⟨hms, hes⟩, hFS⟩, _⟩ := job_open j
  rw [hv] at CJ CV
  simp [mname, Try.underlying69] at hmg hms
  have CG : Hid (∀ X, Calls Try.prog fg #[rg] X fun e w' => e = .returned (.int .i64 (Jb.top j)) ∧ Below X.heap.size X w') := hFG
  obtain ⟨W0, hW0⟩ : ∃ W0, W0 = w.alloc (.cells #[.int .i64 x.1, .int .i64 x.2] 53) := ⟨_, rfl⟩
  have Q0 : BX 53 W0 w.heap.size #[.int .i64 x.1, .int .i64 x.2] := by rw [hW0]; exact BX.new _ _ _
  have BH : Hid (Below w.heap.size w W0) := by show Below _ _ _; rw [hW0]; exact below_alloc _ _
  have s1 : w.heap.size + 1 ≤ W0.heap.size := by rw [hW0]; simp
  have HK : Hid (∀ X, Below W0.heap.size W0 X → BX 53 X w.heap.size #[.int .i64 x.1, .int .i64 x.2] ∧ Below w.heap.size w X) := fun X hX => ⟨Q0.below hX (by omega), BH.out.trans (hX.mono (by omega))⟩
  obtain ⟨q0, q1, _⟩ := Q0.all2
  generalize hkk : Jb.k j = kk at *
  generalize hpp : Jb.p j = pp at *
  clear hkk hpp Q0 hv hFG
  cases h1 : valB j x
  · have HW : saidJ j x n = (0, 2) := by unfold saidJ; rw [h1]; simp
    rw [HW]
    rw [h1] at CV
    unfold SayP
    clear HW h1 hFS
    go_enter Try.func49, Try.ntmps49
    go_upto_region 1 with fail
    rw [← hW0]
    clear hW0
    go_wp2_with fail
    refine (CJ.out _).mono ?_
    rintro e w1 ⟨rfl, hw⟩
    replace hw := hw.symm
    subst hw
    go_wp2_with fail
    refine (CV.out _).mono ?_
    rintro e w2 ⟨rfl, hb2⟩
    have B2 : Hid (Below w.heap.size w w2) := (HK.out _ hb2).2
    clear hb2 q0 q1
    go_wp2_with fail
    go_ret2
    exact ⟨rfl, B2.out⟩
  · have hxb : -1 ≤ x.1 ∧ x.1 ≤ Jb.top j := by
      unfold valB at h1
      rw [Bool.and_eq_true] at h1
      exact inB_iff.1 h1.1
    by_cases h2 : x.1 = -1
    · have HW : saidJ j x n = (0, 2) := by unfold saidJ; rw [h1]; simp [h2]
      rw [HW]
      rw [h1] at CV
      have d2 : (x.1 == -1) = true := by simpa using h2
      unfold SayP
      clear HW h1 h2 hxb hFS
      go_enter Try.func49, Try.ntmps49
      go_upto_region 1 with fail
      rw [← hW0]
      clear hW0
      go_wp2_with fail
      refine (CJ.out _).mono ?_
      rintro e w1 ⟨rfl, hw⟩
      replace hw := hw.symm
      subst hw
      go_wp2_with fail
      refine (CV.out _).mono ?_
      rintro e w2 ⟨rfl, hb2⟩
      obtain ⟨Q2, b2⟩ := HK.out _ hb2
      have B2 : Hid (Below w.heap.size w w2) := b2
      clear hb2 q0 q1 b2
      obtain ⟨q0, q1, _⟩ := Q2.all2
      clear Q2
      go_wp2_with fail
      go_ret2
      exact ⟨rfl, B2.out⟩
    · have d2 : (x.1 == -1) = false := by simpa using h2
      cases h3 : inB n 0 1099511627776
      · have HW : saidJ j x n = (0, 2) := by unfold saidJ; rw [h1, h3]; simp
        rw [HW]
        rw [h1] at CV
        rw [h3] at CW
        unfold SayP
        clear HW h1 h2 h3 hxb hFS
        go_enter Try.func49, Try.ntmps49
        go_upto_region 1 with fail
        rw [← hW0]
        clear hW0
        go_wp2_with fail
        refine (CJ.out _).mono ?_
        rintro e w1 ⟨rfl, hw⟩
        replace hw := hw.symm
        subst hw
        go_wp2_with fail
        refine (CV.out _).mono ?_
        rintro e w2 ⟨rfl, hb2⟩
        obtain ⟨Q2, b2⟩ := HK.out _ hb2
        have B2 : Hid (Below w.heap.size w w2) := b2
        clear hb2 q0 q1 b2
        obtain ⟨q0, q1, _⟩ := Q2.all2
        clear Q2
        go_wp2_with fail
        refine (CW.out _).mono ?_
        rintro e w3 ⟨rfl, hw⟩
        replace hw := hw.symm
        subst hw
        go_wp2_with fail
        go_ret2
        exact ⟨rfl, B2.out⟩
      · have hnb := inB_iff.1 h3
        have htl := top_le j
        have CS : Hid (∀ X, Calls Try.prog fs #[rs, .int .i64 x.1, .int .i64 n] X fun e w' => e = .returned (.int .i64 (sayJ j x.1 n)) ∧ Below X.heap.size X w') := fun X => hFS x.1 n ⟨by omega, by omega⟩ hnb X
        have HW : saidJ j x n = if sayJ j x.1 n ≤ Jb.top j then (sayJ j x.1 n, 0) else (0, 6) := by unfold saidJ; rw [h1, h3]; simp [h2]
        rw [HW]
        rw [h1] at CV
        rw [h3] at CW
        unfold SayP
        generalize sayJ j x.1 n = y at *
        generalize Jb.top j = T at *
        clear HW h1 h2 h3 hxb hFS hnb htl
        by_cases h4 : y ≤ T
        · rw [if_pos h4]
          have d4 : ¬ y > T := by omega
          clear h4
          go_enter Try.func49, Try.ntmps49
          go_upto_region 1 with fail
          rw [← hW0]
          clear hW0
          go_wp2_with fail
          refine (CJ.out _).mono ?_
          rintro e w1 ⟨rfl, hw⟩
          replace hw := hw.symm
          subst hw
          go_wp2_with fail
          refine (CV.out _).mono ?_
          rintro e w2 ⟨rfl, hb2⟩
          obtain ⟨Q2, b2⟩ := HK.out _ hb2
          have B2 : Hid (Below w.heap.size w w2) := b2
          clear hb2 q0 q1 b2
          obtain ⟨q0, q1, _⟩ := Q2.all2
          clear Q2
          go_wp2_with fail
          refine (CW.out _).mono ?_
          rintro e w3 ⟨rfl, hw⟩
          replace hw := hw.symm
          subst hw
          go_wp2_with fail
          refine (CS.out _).mono ?_
          rintro e w4 ⟨rfl, hb4⟩
          have B4 : Hid (Below w.heap.size w w4) := B2.out.trans (hb4.mono B2.out.size)
          clear hb4 q0 q1
          go_wp2_with fail
          refine (CG.out _).mono ?_
          rintro e w5 ⟨rfl, hb5⟩
          have B5 : Hid (Below w.heap.size w w5) := B4.out.trans (hb5.mono B4.out.size)
          clear hb5
          go_wp2_with fail
          go_ret2
          exact ⟨rfl, B5.out⟩
        · rw [if_neg h4]
          have d4 : y > T := by omega
          clear h4
          go_enter Try.func49, Try.ntmps49
          go_upto_region 1 with fail
          rw [← hW0]
          clear hW0
          go_wp2_with fail
          refine (CJ.out _).mono ?_
          rintro e w1 ⟨rfl, hw⟩
          replace hw := hw.symm
          subst hw
          go_wp2_with fail
          refine (CV.out _).mono ?_
          rintro e w2 ⟨rfl, hb2⟩
          obtain ⟨Q2, b2⟩ := HK.out _ hb2
          have B2 : Hid (Below w.heap.size w w2) := b2
          clear hb2 q0 q1 b2
          obtain ⟨q0, q1, _⟩ := Q2.all2
          clear Q2
          go_wp2_with fail
          refine (CW.out _).mono ?_
          rintro e w3 ⟨rfl, hw⟩
          replace hw := hw.symm
          subst hw
          go_wp2_with fail
          refine (CS.out _).mono ?_
          rintro e w4 ⟨rfl, hb4⟩
          have B4 : Hid (Below w.heap.size w w4) := B2.out.trans (hb4.mono B2.out.size)
          clear hb4 q0 q1
          go_wp2_with fail
          refine (CG.out _).mono ?_
          rintro e w5 ⟨rfl, hb5⟩
          have B5 : Hid (Below w.heap.size w w5) := B4.out.trans (hb5.mono B4.out.size)
          clear hb5
          go_wp2_with fail
          go_ret2
          exact ⟨rfl, B5.out⟩
theorem say_any (k : Int) (x : Ml) (p n : Int) (w : World) :
    Calls Try.prog 49 #[.int .i64 k, .agg #[.int .i64 x.1, .int .i64 x.2], .int .i64 p, .int .i64 n] w (SayP w (saidF k x p n)) := by
  rcases jobF_cases k p with h | ⟨j, rfl, rfl⟩
  · exact say_none h w
  · rw [saidF_of]
    exact say_job j x n w
end Go.Proofs.Ytinijeejfnehmaa
