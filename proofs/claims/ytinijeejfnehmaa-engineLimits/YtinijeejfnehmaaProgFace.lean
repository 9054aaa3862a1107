/-
  Contracts of prog.Wake and prog.Say.
-/
import Derived.Test.YtinijeejfnehmaaProgMay
namespace Go.Proofs.Ytinijeejfnehmaa
set_option maxRecDepth 100000
open Go.ChangeShapes Go.WideShapes Go.ChangeAt Go.RowKit

/-- A value, whether it is said, and an error. -/
def WakP (w : World) (r : Wk) (e : Ending) (w' : World) : Prop :=
  e = .returned (.tuple #[.agg #[.int .i64 r.x.1, .int .i64 r.x.2], .bool r.b, .int .i64 r.f]) ∧ Below w.heap.size w w'
def SayP (w : World) (r : Int × Int) (e : Ending) (w' : World) : Prop := e = .returned (.tuple #[.int .i64 r.1, .int .i64 r.2]) ∧ Below w.heap.size w w'

set_option maxHeartbeats 2000000 in
set_option maxRecDepth 100000 in
theorem wake_none {k v s p : Int} {x : Ml} {b : Bool} {m : List Int} (vm : Value) (h : jobF k p = none ∧ ¬ (k = 1 ∧ p = 0) ∧ ¬ (k = 2 ∧ p = 0) ∧ ¬ (k = 3 ∧ p = 0) ∧ ¬ (k = 3 ∧ p = 1)) (w : World) (hm : InR w vm m) :
    Calls Try.prog 56 #[.int .i64 k, .int .i64 v, .int .i64 s, .agg #[.int .i64 x.1, .int .i64 x.2], .int .i64 p, .bool b, vm] w (WakP w (wakeF k v s x p b m)) := by
  obtain ⟨a, cap, rfl⟩ := hm.shape
  clear hm
  rw [wakeF_none h.1]
  have HC : Hid (∀ X, Calls Try.prog 35 #[.int .i64 k, .int .i64 p] X fun e w' => e = .returned (.tuple #[.nilIface, .int .i64 3]) ∧ w' = X) := fun X => jobOf_none h.2 X
  have HE : Hid (∀ w', Below w.heap.size w w' → WakP w ⟨(0, 0), false, 3⟩ (.returned (.tuple #[.agg #[.int .i64 0, .int .i64 0], .bool false, .int .i64 3])) w') := fun w' hw => ⟨rfl, hw⟩
  generalize WakP w ⟨(0, 0), false, 3⟩ = P at *
  obtain ⟨W0, hW0⟩ : ∃ W0, W0 = (w.alloc (.cells #[.int .i64 x.1, .int .i64 x.2] 53)).alloc (.cells #[.int .i64 0, .int .i64 0] 53) := ⟨_, rfl⟩
  obtain ⟨Q0, T0, B0, s1, s2⟩ := boxes2 w #[.int .i64 x.1, .int .i64 x.2] #[.int .i64 0, .int .i64 0] 53 53 W0 hW0
  have T1 : Hid (BX 53 W0 (w.heap.size + 1) #[.int .i64 0, .int .i64 0]) := T0
  have BH : Hid (Below w.heap.size w W0) := B0
  clear Q0 T0 B0 h
  obtain ⟨t0, t1, t2, t3⟩ := T1.out.all2
  have RX : Hid (BX 53 (put2 W0 (w.heap.size + 1) (.int .i64 0) (.int .i64 0)) (w.heap.size + 1) #[.int .i64 0, .int .i64 0]) := T1.out.put2 _ _
  have HX : Hid (Below w.heap.size w (put2 W0 (w.heap.size + 1) (.int .i64 0) (.int .i64 0))) := below_put2 BH.out (by omega) _ _
  go_enter Try.func56, Try.ntmps56
  go_upto_region 1 with fail
  rw [← hW0]
  clear hW0
  go_wp2_with fail
  refine (HC.out _).mono ?_
  rintro e w1 ⟨rfl, hw⟩
  replace hw := hw.symm
  subst hw
  go_wp2_with fail
  obtain ⟨r0, r1, _⟩ := RX.out.all2
  unfold put2 at r0 r1
  exact bodyPost_ret (v := .tuple #[.agg #[.int .i64 0, .int .i64 0], .bool false, .int .i64 3]) (by simp [results, Try.results56, go_sem, r0, r1]) rfl (HE.out _ HX.out)

set_option maxHeartbeats 4000000 in
set_option maxRecDepth 100000 in
theorem wake_job (j : Jb) (v s : Int) (x : Ml) (b : Bool) (m : List Int) (vm : Value) (w : World) (hm : InR w vm m) :
    Calls Try.prog 56 #[.int .i64 (Jb.k j), .int .i64 v, .int .i64 s, .agg #[.int .i64 x.1, .int .i64 x.2], .int .i64 (Jb.p j), .bool b, vm] w (WakP w (wakeJ j v s x b m)) := by
  have HR : Hid (InR w vm m) := hm
  obtain ⟨a, cap, rfl⟩ := hm.shape
  clear hm
  have CJ : Hid (∀ X, Calls Try.prog 35 #[.int .i64 (Jb.k j), .int .i64 (Jb.p j)] X fun e w' => e = .returned (.tuple #[Jb.v j, .int .i64 0]) ∧ w' = X) := fun X => jobOf_any j X
  have CI : Hid (∀ X, Calls Try.prog 64 #[.int .i64 v] X fun e w' => e = .returned (.bool (inB v 0 199)) ∧ w' = X) := fun X => isVertex_any v X
  have CV : Hid (∀ X, Calls Try.prog 57 #[Jb.v j, .agg #[.int .i64 x.1, .int .i64 x.2]] X fun e w' => e = .returned (.bool (valB j x)) ∧ Below X.heap.size X w') := fun X => valueMayBe_any j x X
  have CM : Hid (∀ X, InR X (.slice a m.length cap) m → Calls Try.prog 65 #[Jb.v j, .slice a m.length cap] X fun e w' => e = .returned (.bool (mailB j m)) ∧ Below X.heap.size X w') := fun X hX => mailMayBe_any j _ m X hX
  obtain ⟨t, u, hv, ⟨fb, rb, ⟨hmb, heb⟩, hFB⟩, _, ⟨fh, rh, ⟨hmh, heh⟩, hFH⟩, _⟩ := job_open j
  rw [hv] at CJ CV CM
  simp [mname, Try.underlying69] at hmb hmh
  have CB : Hid (∀ X, Calls Try.prog fb #[rb, .int .i64 v, .int .i64 s, .agg #[.int .i64 x.1, .int .i64 x.2]] X fun e w' => e = .returned (.tuple #[.agg #[.int .i64 (beginF j v s x).1.1, .int .i64 (beginF j v s x).1.2], .bool (beginF j v s x).2]) ∧ Below X.heap.size X w') := fun X => hFB v s x X
  have CH : Hid (∀ X, InR X (.slice a m.length cap) m → Calls Try.prog fh #[rh, .agg #[.int .i64 x.1, .int .i64 x.2], .slice a m.length cap] X fun e w' => e = .returned (.tuple #[.agg #[.int .i64 (hearF j x m).1.1, .int .i64 (hearF j x m).1.2], .bool (hearF j x m).2]) ∧ Below X.heap.size X w') := fun X hX => hFH x _ m X hX
  clear hv hFB hFH
  obtain ⟨W0, hW0⟩ : ∃ W0, W0 = (w.alloc (.cells #[.int .i64 x.1, .int .i64 x.2] 53)).alloc (.cells #[.int .i64 0, .int .i64 0] 53) := ⟨_, rfl⟩
  obtain ⟨Q0, T0, B0, s1, s2⟩ := boxes2 w #[.int .i64 x.1, .int .i64 x.2] #[.int .i64 0, .int .i64 0] 53 53 W0 hW0
  have Q1 : Hid (BX 53 W0 w.heap.size #[.int .i64 x.1, .int .i64 x.2]) := Q0
  have T1 : Hid (BX 53 W0 (w.heap.size + 1) #[.int .i64 0, .int .i64 0]) := T0
  have BH : Hid (Below w.heap.size w W0) := B0
  have HK : Hid (∀ X, Below W0.heap.size W0 X → BX 53 X w.heap.size #[.int .i64 x.1, .int .i64 x.2] ∧ BX 53 X (w.heap.size + 1) #[.int .i64 0, .int .i64 0] ∧ Below w.heap.size w X ∧ InR X (.slice a m.length cap) m) := fun X hX => ⟨Q1.out.below hX (by omega), T1.out.below hX (by omega), BH.out.trans (hX.mono (by omega)), HR.out.below (BH.out.trans (hX.mono (by omega))) (Nat.le_refl _)⟩
  have R0 : Hid (InR W0 (.slice a m.length cap) m) := HR.out.below B0 (Nat.le_refl _)
  obtain ⟨q0, q1, _⟩ := Q0.all2
  clear Q0 T0 B0
  generalize hkk : Jb.k j = kk at *
  generalize hpp : Jb.p j = pp at *
  clear hkk hpp
  cases h1 : inB v 0 199
  · have HW : wakeJ j v s x b m = ⟨(0, 0), false, 2⟩ := by unfold wakeJ; rw [h1]; simp
    rw [HW]
    have HE : Hid (∀ w', Below w.heap.size w w' → WakP w ⟨(0, 0), false, 2⟩ (.returned (.tuple #[.agg #[.int .i64 0, .int .i64 0], .bool false, .int .i64 2])) w') := fun w' hw => ⟨rfl, hw⟩
    generalize WakP w ⟨(0, 0), false, 2⟩ = P at *
    clear HW CB CH hmb hmh heb heh
    rw [h1] at CI
    clear h1 CV CM
    obtain ⟨t0, t1, t2, t3⟩ := T1.out.all2
    have RX : Hid (BX 53 (put2 W0 (w.heap.size + 1) (.int .i64 0) (.int .i64 0)) (w.heap.size + 1) #[.int .i64 0, .int .i64 0]) := T1.out.put2 _ _
    have HX : Hid (Below w.heap.size w (put2 W0 (w.heap.size + 1) (.int .i64 0) (.int .i64 0))) := below_put2 BH.out (by omega) _ _
    go_enter Try.func56, Try.ntmps56
    go_upto_region 1 with fail
    rw [← hW0]
    clear hW0
    go_wp2_with fail
    refine (CJ.out _).mono ?_
    rintro e w1 ⟨rfl, hw⟩
    replace hw := hw.symm
    subst hw
    go_wp2_with fail
    refine (CI.out _).mono ?_
    rintro e w1 ⟨rfl, hw⟩
    replace hw := hw.symm
    subst hw
    go_wp2_with fail
    obtain ⟨r0, r1, _⟩ := RX.out.all2
    unfold put2 at r0 r1
    exact bodyPost_ret (v := .tuple #[.agg #[.int .i64 0, .int .i64 0], .bool false, .int .i64 2]) (by simp [results, Try.results56, go_sem, r0, r1]) rfl (HE.out _ HX.out)
  · cases h2 : valB j x
    · have HW : wakeJ j v s x b m = ⟨(0, 0), false, 2⟩ := by unfold wakeJ; rw [h1, h2]; simp
      rw [HW]
      have HE : Hid (∀ w', Below w.heap.size w w' → WakP w ⟨(0, 0), false, 2⟩ (.returned (.tuple #[.agg #[.int .i64 0, .int .i64 0], .bool false, .int .i64 2])) w') := fun w' hw => ⟨rfl, hw⟩
      generalize WakP w ⟨(0, 0), false, 2⟩ = P at *
      clear HW CB CH hmb hmh heb heh
      rw [h1] at CI
      rw [h2] at CV
      clear h1 h2 CM
      go_enter Try.func56, Try.ntmps56
      go_upto_region 1 with fail
      rw [← hW0]
      clear hW0
      go_wp2_with fail
      refine (CJ.out _).mono ?_
      rintro e w1 ⟨rfl, hw⟩
      replace hw := hw.symm
      subst hw
      go_wp2_with fail
      refine (CI.out _).mono ?_
      rintro e w1 ⟨rfl, hw⟩
      replace hw := hw.symm
      subst hw
      go_wp2_with fail
      refine (CV.out _).mono ?_
      rintro e w2 ⟨rfl, hb2⟩
      have A2 : Hid (Below W0.heap.size W0 w2) := hb2
      clear hb2 q0 q1
      obtain ⟨_, T3, B3, _⟩ := HK.out _ A2.out
      have T4 : Hid (BX 53 w2 (w.heap.size + 1) #[.int .i64 0, .int .i64 0]) := T3
      have B4 : Hid (Below w.heap.size w w2) := B3
      clear T3 B3
      obtain ⟨t0, t1, t2, t3⟩ := T4.out.all2
      have RX : Hid (BX 53 (put2 w2 (w.heap.size + 1) (.int .i64 0) (.int .i64 0)) (w.heap.size + 1) #[.int .i64 0, .int .i64 0]) := T4.out.put2 _ _
      have HX : Hid (Below w.heap.size w (put2 w2 (w.heap.size + 1) (.int .i64 0) (.int .i64 0))) := below_put2 B4.out (by omega) _ _
      go_wp2_with fail
      obtain ⟨r0, r1, _⟩ := RX.out.all2
      unfold put2 at r0 r1
      exact bodyPost_ret (v := .tuple #[.agg #[.int .i64 0, .int .i64 0], .bool false, .int .i64 2]) (by simp [results, Try.results56, go_sem, r0, r1]) rfl (HE.out _ HX.out)
    · cases h3 : mailB j m
      · have HW : wakeJ j v s x b m = ⟨(0, 0), false, 2⟩ := by unfold wakeJ; rw [h1, h2, h3]; simp
        rw [HW]
        have HE : Hid (∀ w', Below w.heap.size w w' → WakP w ⟨(0, 0), false, 2⟩ (.returned (.tuple #[.agg #[.int .i64 0, .int .i64 0], .bool false, .int .i64 2])) w') := fun w' hw => ⟨rfl, hw⟩
        generalize WakP w ⟨(0, 0), false, 2⟩ = P at *
        clear HW CB CH hmb hmh heb heh
        rw [h1] at CI
        rw [h2] at CV
        rw [h3] at CM
        clear h1 h2 h3
        go_enter Try.func56, Try.ntmps56
        go_upto_region 1 with fail
        rw [← hW0]
        clear hW0
        go_wp2_with fail
        refine (CJ.out _).mono ?_
        rintro e w1 ⟨rfl, hw⟩
        replace hw := hw.symm
        subst hw
        go_wp2_with fail
        refine (CI.out _).mono ?_
        rintro e w1 ⟨rfl, hw⟩
        replace hw := hw.symm
        subst hw
        go_wp2_with fail
        refine (CV.out _).mono ?_
        rintro e w2 ⟨rfl, hb2⟩
        have A2 : Hid (Below W0.heap.size W0 w2) := hb2
        clear hb2 q0 q1
        obtain ⟨_, _, _, R2⟩ := HK.out _ A2.out
        have R3 : Hid (InR w2 (.slice a m.length cap) m) := R2
        clear R2
        go_wp2_with fail
        refine (CM.out _ R3.out).mono ?_
        rintro e w3 ⟨rfl, hb3⟩
        have A3 : Hid (Below W0.heap.size W0 w3) := A2.out.trans (hb3.mono A2.out.size)
        clear hb3 A2 R3
        obtain ⟨_, T3, B3, _⟩ := HK.out _ A3.out
        have T4 : Hid (BX 53 w3 (w.heap.size + 1) #[.int .i64 0, .int .i64 0]) := T3
        have B4 : Hid (Below w.heap.size w w3) := B3
        clear T3 B3
        obtain ⟨t0, t1, t2, t3⟩ := T4.out.all2
        have RX : Hid (BX 53 (put2 w3 (w.heap.size + 1) (.int .i64 0) (.int .i64 0)) (w.heap.size + 1) #[.int .i64 0, .int .i64 0]) := T4.out.put2 _ _
        have HX : Hid (Below w.heap.size w (put2 w3 (w.heap.size + 1) (.int .i64 0) (.int .i64 0))) := below_put2 B4.out (by omega) _ _
        go_wp2_with fail
        obtain ⟨r0, r1, _⟩ := RX.out.all2
        unfold put2 at r0 r1
        exact bodyPost_ret (v := .tuple #[.agg #[.int .i64 0, .int .i64 0], .bool false, .int .i64 2]) (by simp [results, Try.results56, go_sem, r0, r1]) rfl (HE.out _ HX.out)
      · cases b
        · have HW : wakeJ j v s x false m = ⟨(hearF j x m).1, (hearF j x m).2, 0⟩ := by unfold wakeJ wakeV; rw [h1, h2, h3]; simp
          rw [HW]
          have HE : Hid (∀ w', Below w.heap.size w w' → WakP w ⟨(hearF j x m).1, (hearF j x m).2, 0⟩ (.returned (.tuple #[.agg #[.int .i64 (hearF j x m).1.1, .int .i64 (hearF j x m).1.2], .bool (hearF j x m).2, .int .i64 0])) w') := fun w' hw => ⟨rfl, hw⟩
          generalize WakP w ⟨(hearF j x m).1, (hearF j x m).2, 0⟩ = P at *
          generalize (hearF j x m).1.1 = ra at *
          generalize (hearF j x m).1.2 = rl at *
          generalize (hearF j x m).2 = rs at *
          rw [h1] at CI
          rw [h2] at CV
          rw [h3] at CM
          clear HW h1 h2 h3 CB hmb heb
          go_enter Try.func56, Try.ntmps56
          go_upto_region 1 with fail
          rw [← hW0]
          clear hW0
          go_wp2_with fail
          refine (CJ.out _).mono ?_
          rintro e w1 ⟨rfl, hw⟩
          replace hw := hw.symm
          subst hw
          go_wp2_with fail
          refine (CI.out _).mono ?_
          rintro e w1 ⟨rfl, hw⟩
          replace hw := hw.symm
          subst hw
          go_wp2_with fail
          refine (CV.out _).mono ?_
          rintro e w2 ⟨rfl, hb2⟩
          have A2 : Hid (Below W0.heap.size W0 w2) := hb2
          clear hb2 q0 q1
          obtain ⟨_, _, _, R2⟩ := HK.out _ A2.out
          have R3 : Hid (InR w2 (.slice a m.length cap) m) := R2
          clear R2
          go_wp2_with fail
          refine (CM.out _ R3.out).mono ?_
          rintro e w3 ⟨rfl, hb3⟩
          have A3 : Hid (Below W0.heap.size W0 w3) := A2.out.trans (hb3.mono A2.out.size)
          clear hb3 A2 R3
          obtain ⟨Q3, T3, B3, R3⟩ := HK.out _ A3.out
          have R4 : Hid (InR w3 (.slice a m.length cap) m) := R3
          obtain ⟨q0, q1, _⟩ := Q3.all2
          clear Q3 T3 B3 R3
          go_wp2_with fail
          refine (CH.out _ R4.out).mono ?_
          rintro e w4 ⟨rfl, hb4⟩
          have A4 : Hid (Below W0.heap.size W0 w4) := A3.out.trans (hb4.mono A3.out.size)
          clear hb4 A3 R4 q0 q1
          go_upto_region 10 with fail
          have N5 := BX.new 53 w4 #[.int .i64 ra, .int .i64 rl]
          have A5 : Hid (Below W0.heap.size W0 (w4.alloc (.cells #[.int .i64 ra, .int .i64 rl] 53))) := A4.out.alloc A4.out.size _
          generalize w4.alloc (.cells #[.int .i64 ra, .int .i64 rl] 53) = w5 at *
          obtain ⟨_, T5, B5, _⟩ := HK.out _ A5.out
          have T6 : Hid (BX 53 w5 (w.heap.size + 1) #[.int .i64 0, .int .i64 0]) := T5
          have B6 : Hid (Below w.heap.size w w5) := B5
          clear T5 B5
          obtain ⟨n0, n1, _⟩ := N5.all2
          clear N5
          obtain ⟨t0, t1, t2, t3⟩ := T6.out.all2
          have RX : Hid (BX 53 (put2 w5 (w.heap.size + 1) (.int .i64 ra) (.int .i64 rl)) (w.heap.size + 1) #[.int .i64 ra, .int .i64 rl]) := T6.out.put2 _ _
          have HX : Hid (Below w.heap.size w (put2 w5 (w.heap.size + 1) (.int .i64 ra) (.int .i64 rl))) := below_put2 B6.out (by omega) _ _
          go_wp2_with fail
          obtain ⟨r0, r1, _⟩ := RX.out.all2
          unfold put2 at r0 r1
          exact bodyPost_ret (v := .tuple #[.agg #[.int .i64 ra, .int .i64 rl], .bool rs, .int .i64 0]) (by simp [results, Try.results56, go_sem, r0, r1]) rfl (HE.out _ HX.out)
        · have HW : wakeJ j v s x true m = ⟨(beginF j v s x).1, (beginF j v s x).2, 0⟩ := by unfold wakeJ wakeV; rw [h1, h2, h3]; simp
          rw [HW]
          have HE : Hid (∀ w', Below w.heap.size w w' → WakP w ⟨(beginF j v s x).1, (beginF j v s x).2, 0⟩ (.returned (.tuple #[.agg #[.int .i64 (beginF j v s x).1.1, .int .i64 (beginF j v s x).1.2], .bool (beginF j v s x).2, .int .i64 0])) w') := fun w' hw => ⟨rfl, hw⟩
          generalize WakP w ⟨(beginF j v s x).1, (beginF j v s x).2, 0⟩ = P at *
          generalize (beginF j v s x).1.1 = ra at *
          generalize (beginF j v s x).1.2 = rl at *
          generalize (beginF j v s x).2 = rs at *
          rw [h1] at CI
          rw [h2] at CV
          rw [h3] at CM
          clear HW h1 h2 h3 CH hmh heh
          go_enter Try.func56, Try.ntmps56
          go_upto_region 1 with fail
          rw [← hW0]
          clear hW0
          go_wp2_with fail
          refine (CJ.out _).mono ?_
          rintro e w1 ⟨rfl, hw⟩
          replace hw := hw.symm
          subst hw
          go_wp2_with fail
          refine (CI.out _).mono ?_
          rintro e w1 ⟨rfl, hw⟩
          replace hw := hw.symm
          subst hw
          go_wp2_with fail
          refine (CV.out _).mono ?_
          rintro e w2 ⟨rfl, hb2⟩
          have A2 : Hid (Below W0.heap.size W0 w2) := hb2
          clear hb2 q0 q1
          obtain ⟨_, _, _, R2⟩ := HK.out _ A2.out
          have R3 : Hid (InR w2 (.slice a m.length cap) m) := R2
          clear R2
          go_wp2_with fail
          refine (CM.out _ R3.out).mono ?_
          rintro e w3 ⟨rfl, hb3⟩
          have A3 : Hid (Below W0.heap.size W0 w3) := A2.out.trans (hb3.mono A2.out.size)
          clear hb3 A2 R3
          obtain ⟨Q3, T3, B3, R3⟩ := HK.out _ A3.out
          have R4 : Hid (InR w3 (.slice a m.length cap) m) := R3
          obtain ⟨q0, q1, _⟩ := Q3.all2
          clear Q3 T3 B3 R3
          go_wp2_with fail
          refine (CB.out _).mono ?_
          rintro e w4 ⟨rfl, hb4⟩
          have A4 : Hid (Below W0.heap.size W0 w4) := A3.out.trans (hb4.mono A3.out.size)
          clear hb4 A3 R4 q0 q1
          go_upto_region 8 with fail
          have N5 := BX.new 53 w4 #[.int .i64 ra, .int .i64 rl]
          have A5 : Hid (Below W0.heap.size W0 (w4.alloc (.cells #[.int .i64 ra, .int .i64 rl] 53))) := A4.out.alloc A4.out.size _
          generalize w4.alloc (.cells #[.int .i64 ra, .int .i64 rl] 53) = w5 at *
          obtain ⟨_, T5, B5, _⟩ := HK.out _ A5.out
          have T6 : Hid (BX 53 w5 (w.heap.size + 1) #[.int .i64 0, .int .i64 0]) := T5
          have B6 : Hid (Below w.heap.size w w5) := B5
          clear T5 B5
          obtain ⟨n0, n1, _⟩ := N5.all2
          clear N5
          obtain ⟨t0, t1, t2, t3⟩ := T6.out.all2
          have RX : Hid (BX 53 (put2 w5 (w.heap.size + 1) (.int .i64 ra) (.int .i64 rl)) (w.heap.size + 1) #[.int .i64 ra, .int .i64 rl]) := T6.out.put2 _ _
          have HX : Hid (Below w.heap.size w (put2 w5 (w.heap.size + 1) (.int .i64 ra) (.int .i64 rl))) := below_put2 B6.out (by omega) _ _
          go_wp2_with fail
          obtain ⟨r0, r1, _⟩ := RX.out.all2
          unfold put2 at r0 r1
          exact bodyPost_ret (v := .tuple #[.agg #[.int .i64 ra, .int .i64 rl], .bool rs, .int .i64 0]) (by simp [results, Try.results56, go_sem, r0, r1]) rfl (HE.out _ HX.out)
theorem wake_any (k v s : Int) (x : Ml) (p : Int) (b : Bool) (m : List Int) (vm : Value) (w : World) (hm : InR w vm m) :
    Calls Try.prog 56 #[.int .i64 k, .int .i64 v, .int .i64 s, .agg #[.int .i64 x.1, .int .i64 x.2], .int .i64 p, .bool b, vm] w (WakP w (wakeF k v s x p b m)) := by
  rcases jobF_cases k p with h | ⟨j, rfl, rfl⟩
  · exact wake_none vm h w hm
  · rw [wakeF_of]
    exact wake_job j v s x b m vm w hm
end Go.Proofs.Ytinijeejfnehmaa
