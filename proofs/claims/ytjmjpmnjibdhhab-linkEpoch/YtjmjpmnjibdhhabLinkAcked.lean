/-
  Contract of link.Acked.
-/
import Derived.Test.YtjmjpmnjibdhhabLinkSend
import Derived.Deep.QuietTactic
import Derived.BigQuiet
import Derived.Lib.QuietBelow
namespace Go.Proofs.Ytjmjpmnjibdhhab
set_option maxRecDepth 100000
open Go.ChangeShapes Go.WideShapes Go.ChangeAt Go.RowKit Go.Sort

/-- What an ack leaves. -/
def ackB (b k : Int) : Int := if b < k then k else b
def ackL (b k : Int) (l : List Ml) : List Ml := l.drop (k - b).toNat

set_option maxHeartbeats 2000000 in
set_option maxRecDepth 100000 in
theorem acked_any (e b x k : Int) (v : Value) (l : List Ml) (w : World) (h : MlR w v l) (hl : l.length * 16 ≤ 140737488351232) (hk : i64B k) :
    Calls Try.prog 13 #[.agg #[.int .i64 e, .int .i64 b, v], .agg #[.int .i64 x, .int .i64 k]] w (SndP w (ackE e b l.length x k) e (ackB b k) (ackL b k l)) := by
  have HR : Hid (MlR w v l) := h
  obtain ⟨a, cap, rfl⟩ := h.shape
  have hn : l.length ≤ 140737488355328 := by omega
  obtain ⟨hk0, hk1⟩ := hk
  clear h
  cases hm : mayS e b l.length
  · have hE : ackE e b l.length x k = 9 := by unfold ackE; rw [hm]; rfl
    have C1 := fun X => senderMayBe_is hm a cap hn X
    have HE : Hid (∀ w', Below w.heap.size w w' → SndP w (ackE e b l.length x k) e (ackB b k) (ackL b k l) (.returned (.tuple #[.agg #[.int .i64 0, .int .i64 0, .slice none 0 0], .int .i64 9])) w') := fun w' hw => by rw [hE]; exact SndP.no (by decide) hw
    generalize SndP w (ackE e b l.length x k) e (ackB b k) (ackL b k l) = P at *
    clear hE hm
    go_enter Try.func13, Try.ntmps13
    go_upto_region 1 with fail
    obtain ⟨Q0, M0, T0, B0, s1, s2⟩ := boxes3 w #[.int .i64 e, .int .i64 b, .slice a l.length cap] #[.int .i64 x, .int .i64 k] #[.int .i64 0, .int .i64 0, .slice none 0 0] 27 46 27 _ rfl
    generalize ((w.alloc (.cells #[.int .i64 e, .int .i64 b, .slice a l.length cap] 27)).alloc (.cells #[.int .i64 x, .int .i64 k] 46)).alloc (.cells #[.int .i64 0, .int .i64 0, .slice none 0 0] 27) = W0 at *
    have T1 : Hid (BX 27 W0 (w.heap.size + 2) #[.int .i64 0, .int .i64 0, .slice none 0 0]) := T0
    have BH : Hid (Below w.heap.size w W0) := B0
    obtain ⟨q0, q1, q2, _⟩ := Q0.all3
    obtain ⟨m0, m1, _⟩ := M0.all2
    clear Q0 M0 T0 B0
    go_wp2_with fail
    refine (C1 _).mono ?_
    rintro E w1 ⟨rfl, hb1⟩
    have T2 : Hid (BX 27 w1 (w.heap.size + 2) #[.int .i64 0, .int .i64 0, .slice none 0 0]) := T1.out.below hb1 (by omega)
    have HX : Hid (P (.returned (.tuple #[.agg #[.int .i64 0, .int .i64 0, .slice none 0 0], .int .i64 9])) (put3 w1 (w.heap.size + 2) (.int .i64 0) (.int .i64 0) (.slice none 0 0))) := HE.out _ (below_put3 (BH.out.trans (hb1.mono (by omega))) (by omega) _ _ _)
    have RX : Hid (BX 27 (put3 w1 (w.heap.size + 2) (.int .i64 0) (.int .i64 0) (.slice none 0 0)) (w.heap.size + 2) #[.int .i64 0, .int .i64 0, .slice none 0 0]) := T2.out.put3 _ _ _
    obtain ⟨t0, t1, t2, t3, t4, t5⟩ := T2.out.all3
    clear hb1
    go_wp2_with fail
    obtain ⟨r0, r1, r2, _⟩ := RX.out.all3
    unfold put3 at r0 r1 r2
    exact bodyPost_ret (v := .tuple #[.agg #[.int .i64 0, .int .i64 0, .slice none 0 0], .int .i64 9]) (by simp [results, Try.results13, go_sem, r0, r1, r2]) rfl HX.out
  · obtain ⟨he, hb, h5⟩ := mayS_iff.1 hm
    have C1 := fun X => senderMayBe_is hm a cap hn X
    by_cases hx : x = e
    · subst hx
      by_cases hr : 0 ≤ k ∧ k ≤ b + ((min 4 l.length : Nat) : Int)
      · obtain ⟨hr0, hr1⟩ := hr
        have hE : ackE x b l.length x k = 0 := by unfold ackE; rw [hm, if_pos rfl, if_pos rfl, if_pos ⟨hr0, hr1⟩]
        have HE : Hid (∀ v w', w'.ownsRow w.heap.size 41 2 v (ackL b k l).length ((ackL b k l).flatMap encM) → Below w.heap.size w w' → SndP w (ackE x b l.length x k) x (ackB b k) (ackL b k l) (.returned (.tuple #[.agg #[.int .i64 x, .int .i64 (ackB b k), v], .int .i64 0])) w') := fun v w' h1 hw => by rw [hE]; exact SndP.yes h1 hw
        generalize SndP w (ackE x b l.length x k) x (ackB b k) (ackL b k l) = P at *
        have CD := fun X => dueCount_any x b a l.length cap hn X
        have C3 : Hid (∀ X, MlR X (.slice a l.length cap) l → Calls Try.prog 16 #[.agg #[.int .i64 x, .int .i64 b, .slice a l.length cap], .int .i64 (max (k - b) 0)] X (SndO X x (ackB b k) (ackL b k l))) := fun X hX => by
          have := behind_any x b (k - b).toNat (.slice a l.length cap) l X hX h5 (by omega) hb.1 hb.2
          have e1 : (((k - b).toNat : Nat) : Int) = max (k - b) 0 := by omega
          have e2 : b + max (k - b) 0 = ackB b k := by unfold ackB; split <;> omega
          rw [e1, e2] at this
          exact this
        have hD : ((min 4 l.length : Nat) : Int) ≤ 4 := by omega
        have hD0 : 0 ≤ ((min 4 l.length : Nat) : Int) := by omega
        generalize ((min 4 l.length : Nat) : Int) = D at *
        have d1 : decide (k < 0) = false := by simp; omega
        have d2 : decide (b + D < k) = false := by simp; omega
        have d3 : IntKind.i64.wrap (b + D) = b + D := wrap_id64 (by omega) (by omega)
        have dx : (x != x) = false := by simp
        generalize ackL b k l = L at *
        generalize ackB b k = bb at *
        clear hE hm
        go_enter Try.func13, Try.ntmps13
        go_upto_region 1 with fail
        obtain ⟨Q0, M0, T0, B0, s1, s2⟩ := boxes3 w #[.int .i64 x, .int .i64 b, .slice a l.length cap] #[.int .i64 x, .int .i64 k] #[.int .i64 0, .int .i64 0, .slice none 0 0] 27 46 27 _ rfl
        generalize ((w.alloc (.cells #[.int .i64 x, .int .i64 b, .slice a l.length cap] 27)).alloc (.cells #[.int .i64 x, .int .i64 k] 46)).alloc (.cells #[.int .i64 0, .int .i64 0, .slice none 0 0] 27) = W0 at *
        have T1 : Hid (BX 27 W0 (w.heap.size + 2) #[.int .i64 0, .int .i64 0, .slice none 0 0]) := T0
        have BH : Hid (Below w.heap.size w W0) := B0
        obtain ⟨q0, q1, q2, _⟩ := Q0.all3
        obtain ⟨m0, m1, _⟩ := M0.all2
        have Q1 : Hid (BX 27 W0 w.heap.size #[.int .i64 x, .int .i64 b, .slice a l.length cap]) := Q0
        have M1 : Hid (BX 46 W0 (w.heap.size + 1) #[.int .i64 x, .int .i64 k]) := M0
        clear Q0 M0 T0 B0
        go_wp2_with fail
        refine (C1 _).mono ?_
        rintro E w1 ⟨rfl, hb1⟩
        have B1 : Hid (Below W0.heap.size W0 w1) := hb1
        have hs1 := hb1.size
        obtain ⟨q0, q1, q2, _⟩ := (Q1.out.below hb1 (by omega)).all3
        obtain ⟨m0, m1, _⟩ := (M1.out.below hb1 (by omega)).all2
        clear hb1
        go_upto_region 5 with fail
        have g0 := cell_regrown q0
        have g1 := cell_regrown q1
        have g2 := cell_regrown q2
        have g3 := cell_regrown m1
        have EE : ∀ d os, Calls Try.prog 17 #[.agg #[.int .i64 x, .int .i64 b, .slice a l.length cap]] (grow (redrawn w1 d) os) fun e w'' => e = .returned (.int .i64 D) ∧ ∃ p : Regrown, w'' = grow (redrawn w1 p.d) p.os := fun d os => Calls.regrown_of (CD _)
        clear q0 q1 q2 m0 m1 CD
        refine wp_region_quiet_below (by kernel_rfl) (by kernel_rfl) ?_
        repeat (quiet_step (exact EE _ _))
        refine wpQuiet_nil ?_
        intro _ hw'
        obtain ⟨⟨dq, osq⟩, hw''⟩ := hw'
        have B2 : Hid (Below W0.heap.size W0 (grow (redrawn w1 dq) osq)) := B1.out.trans ((below_regrown w1 dq osq).mono hs1)
        subst hw''
        generalize grow (redrawn w1 dq) osq = w2 at B2 ⊢
        have hs2 := B2.out.size
        clear g0 g1 g2 g3 EE
        obtain ⟨q0, q1, q2, _⟩ := (Q1.out.below B2.out (by omega)).all3
        obtain ⟨m0, m1, _⟩ := (M1.out.below B2.out (by omega)).all2
        go_wp2_with fail
        refine (C3.out _ (HR.out.below (BH.out.trans (B2.out.mono (by omega))) (Nat.le_refl _))).mono ?_
        rintro E w3 ⟨v3, rfl, ho3, hb3⟩
        have hs3 := hb3.size
        have B3 : Hid (Below W0.heap.size W0 w3) := B2.out.trans (hb3.mono hs2)
        have O3 : Hid (w3.ownsRow W0.heap.size 41 2 v3 L.length (L.flatMap encM)) := own_lower ho3 hs2
        obtain ⟨ya, yc, rfl⟩ := (MlR.ownd O3.out).shape
        have Z5 : Hid (BX 27 w3 (w.heap.size + 2) #[.int .i64 0, .int .i64 0, .slice none 0 0]) := T1.out.below B3.out (by omega)
        obtain ⟨z0, z1, z2, z3, z4, z5⟩ := Z5.out.all3
        have HX : Hid (P (.returned (.tuple #[.agg #[.int .i64 x, .int .i64 bb, .slice ya L.length yc], .int .i64 0])) (put3 w3 (w.heap.size + 2) (.int .i64 x) (.int .i64 bb) (.slice ya L.length yc))) := HE.out _ _ (own_lower (Z5.out.own3 O3.out (by decide)) (by omega)) (below_put3 (BH.out.trans (B3.out.mono (by omega))) (by omega) _ _ _)
        have RX : Hid (BX 27 (put3 w3 (w.heap.size + 2) (.int .i64 x) (.int .i64 bb) (.slice ya L.length yc)) (w.heap.size + 2) #[.int .i64 x, .int .i64 bb, .slice ya L.length yc]) := Z5.out.put3 _ _ _
        clear ho3 hb3 q0 q1 q2 m0 m1 O3 B3
        go_wp2_with fail
        obtain ⟨r0, r1, r2, _⟩ := RX.out.all3
        unfold put3 at r0 r1 r2
        exact bodyPost_ret (v := .tuple #[.agg #[.int .i64 x, .int .i64 bb, .slice ya L.length yc], .int .i64 0]) (by simp [results, Try.results13, go_sem, r0, r1, r2]) rfl HX.out
      · have hE : ackE x b l.length x k = 2 := by unfold ackE; rw [hm, if_pos rfl, if_pos rfl, if_neg hr]
        have HE : Hid (∀ w', Below w.heap.size w w' → SndP w (ackE x b l.length x k) x (ackB b k) (ackL b k l) (.returned (.tuple #[.agg #[.int .i64 0, .int .i64 0, .slice none 0 0], .int .i64 2])) w') := fun w' hw => by rw [hE]; exact SndP.no (by decide) hw
        generalize SndP w (ackE x b l.length x k) x (ackB b k) (ackL b k l) = P at *
        have CD := fun X => dueCount_any x b a l.length cap hn X
        have hD : ((min 4 l.length : Nat) : Int) ≤ 4 := by omega
        have hD0 : 0 ≤ ((min 4 l.length : Nat) : Int) := by omega
        generalize ((min 4 l.length : Nat) : Int) = D at *
        have d3 : IntKind.i64.wrap (b + D) = b + D := wrap_id64 (by omega) (by omega)
        have dx : (x != x) = false := by simp
        clear hE hm
        by_cases hk2 : k < 0
        · have d1 : decide (k < 0) = true := by simp; omega
          go_enter Try.func13, Try.ntmps13
          go_upto_region 1 with fail
          obtain ⟨Q0, M0, T0, B0, s1, s2⟩ := boxes3 w #[.int .i64 x, .int .i64 b, .slice a l.length cap] #[.int .i64 x, .int .i64 k] #[.int .i64 0, .int .i64 0, .slice none 0 0] 27 46 27 _ rfl
          generalize ((w.alloc (.cells #[.int .i64 x, .int .i64 b, .slice a l.length cap] 27)).alloc (.cells #[.int .i64 x, .int .i64 k] 46)).alloc (.cells #[.int .i64 0, .int .i64 0, .slice none 0 0] 27) = W0 at *
          have T1 : Hid (BX 27 W0 (w.heap.size + 2) #[.int .i64 0, .int .i64 0, .slice none 0 0]) := T0
          have BH : Hid (Below w.heap.size w W0) := B0
          obtain ⟨q0, q1, q2, _⟩ := Q0.all3
          obtain ⟨m0, m1, _⟩ := M0.all2
          have Q1 : Hid (BX 27 W0 w.heap.size #[.int .i64 x, .int .i64 b, .slice a l.length cap]) := Q0
          have M1 : Hid (BX 46 W0 (w.heap.size + 1) #[.int .i64 x, .int .i64 k]) := M0
          clear Q0 M0 T0 B0
          go_wp2_with fail
          refine (C1 _).mono ?_
          rintro E w1 ⟨rfl, hb1⟩
          have B1 : Hid (Below W0.heap.size W0 w1) := hb1
          have hs1 := hb1.size
          obtain ⟨q0, q1, q2, _⟩ := (Q1.out.below hb1 (by omega)).all3
          obtain ⟨m0, m1, _⟩ := (M1.out.below hb1 (by omega)).all2
          clear hb1
          go_upto_region 5 with fail
          go_quiet (fail)
          have B2 : Hid (Below W0.heap.size W0 (w1.drewN nq)) := below_drewN B1.out nq
          clear q0 q1 q2 m0 m1
          generalize w1.drewN nq = w2 at B2 ⊢
          have hs2 := B2.out.size
          have T2 : Hid (BX 27 w2 (w.heap.size + 2) #[.int .i64 0, .int .i64 0, .slice none 0 0]) := T1.out.below B2.out (by omega)
          have HX : Hid (P (.returned (.tuple #[.agg #[.int .i64 0, .int .i64 0, .slice none 0 0], .int .i64 2])) (put3 w2 (w.heap.size + 2) (.int .i64 0) (.int .i64 0) (.slice none 0 0))) := HE.out _ (below_put3 (BH.out.trans (B2.out.mono (by omega))) (by omega) _ _ _)
          have RX : Hid (BX 27 (put3 w2 (w.heap.size + 2) (.int .i64 0) (.int .i64 0) (.slice none 0 0)) (w.heap.size + 2) #[.int .i64 0, .int .i64 0, .slice none 0 0]) := T2.out.put3 _ _ _
          obtain ⟨t0, t1, t2, t3, t4, t5⟩ := T2.out.all3
          clear B2
          go_wp2_with fail
          obtain ⟨r0, r1, r2, _⟩ := RX.out.all3
          unfold put3 at r0 r1 r2
          exact bodyPost_ret (v := .tuple #[.agg #[.int .i64 0, .int .i64 0, .slice none 0 0], .int .i64 2]) (by simp [results, Try.results13, go_sem, r0, r1, r2]) rfl HX.out
        · have d1 : decide (k < 0) = false := by simp; omega
          have d2 : decide (b + D < k) = true := by simp; omega
          go_enter Try.func13, Try.ntmps13
          go_upto_region 1 with fail
          obtain ⟨Q0, M0, T0, B0, s1, s2⟩ := boxes3 w #[.int .i64 x, .int .i64 b, .slice a l.length cap] #[.int .i64 x, .int .i64 k] #[.int .i64 0, .int .i64 0, .slice none 0 0] 27 46 27 _ rfl
          generalize ((w.alloc (.cells #[.int .i64 x, .int .i64 b, .slice a l.length cap] 27)).alloc (.cells #[.int .i64 x, .int .i64 k] 46)).alloc (.cells #[.int .i64 0, .int .i64 0, .slice none 0 0] 27) = W0 at *
          have T1 : Hid (BX 27 W0 (w.heap.size + 2) #[.int .i64 0, .int .i64 0, .slice none 0 0]) := T0
          have BH : Hid (Below w.heap.size w W0) := B0
          obtain ⟨q0, q1, q2, _⟩ := Q0.all3
          obtain ⟨m0, m1, _⟩ := M0.all2
          have Q1 : Hid (BX 27 W0 w.heap.size #[.int .i64 x, .int .i64 b, .slice a l.length cap]) := Q0
          have M1 : Hid (BX 46 W0 (w.heap.size + 1) #[.int .i64 x, .int .i64 k]) := M0
          clear Q0 M0 T0 B0
          go_wp2_with fail
          refine (C1 _).mono ?_
          rintro E w1 ⟨rfl, hb1⟩
          have B1 : Hid (Below W0.heap.size W0 w1) := hb1
          have hs1 := hb1.size
          obtain ⟨q0, q1, q2, _⟩ := (Q1.out.below hb1 (by omega)).all3
          obtain ⟨m0, m1, _⟩ := (M1.out.below hb1 (by omega)).all2
          clear hb1
          go_upto_region 5 with fail
          have g0 := cell_regrown q0
          have g1 := cell_regrown q1
          have g2 := cell_regrown q2
          have g3 := cell_regrown m1
          have EE : ∀ d os, Calls Try.prog 17 #[.agg #[.int .i64 x, .int .i64 b, .slice a l.length cap]] (grow (redrawn w1 d) os) fun e w'' => e = .returned (.int .i64 D) ∧ ∃ p : Regrown, w'' = grow (redrawn w1 p.d) p.os := fun d os => Calls.regrown_of (CD _)
          clear q0 q1 q2 m0 m1 CD
          refine wp_region_quiet_below (by kernel_rfl) (by kernel_rfl) ?_
          repeat (quiet_step (exact EE _ _))
          refine wpQuiet_nil ?_
          intro _ hw'
          obtain ⟨⟨dq, osq⟩, hw''⟩ := hw'
          have B2 : Hid (Below W0.heap.size W0 (grow (redrawn w1 dq) osq)) := B1.out.trans ((below_regrown w1 dq osq).mono hs1)
          subst hw''
          generalize grow (redrawn w1 dq) osq = w2 at B2 ⊢
          have hs2 := B2.out.size
          clear g0 g1 g2 g3 EE
          obtain ⟨q0, q1, q2, _⟩ := (Q1.out.below B2.out (by omega)).all3
          obtain ⟨m0, m1, _⟩ := (M1.out.below B2.out (by omega)).all2
          have T2 : Hid (BX 27 w2 (w.heap.size + 2) #[.int .i64 0, .int .i64 0, .slice none 0 0]) := T1.out.below B2.out (by omega)
          have HX : Hid (P (.returned (.tuple #[.agg #[.int .i64 0, .int .i64 0, .slice none 0 0], .int .i64 2])) (put3 w2 (w.heap.size + 2) (.int .i64 0) (.int .i64 0) (.slice none 0 0))) := HE.out _ (below_put3 (BH.out.trans (B2.out.mono (by omega))) (by omega) _ _ _)
          have RX : Hid (BX 27 (put3 w2 (w.heap.size + 2) (.int .i64 0) (.int .i64 0) (.slice none 0 0)) (w.heap.size + 2) #[.int .i64 0, .int .i64 0, .slice none 0 0]) := T2.out.put3 _ _ _
          obtain ⟨t0, t1, t2, t3, t4, t5⟩ := T2.out.all3
          clear B2
          go_wp2_with fail
          obtain ⟨r0, r1, r2, _⟩ := RX.out.all3
          unfold put3 at r0 r1 r2
          exact bodyPost_ret (v := .tuple #[.agg #[.int .i64 0, .int .i64 0, .slice none 0 0], .int .i64 2]) (by simp [results, Try.results13, go_sem, r0, r1, r2]) rfl HX.out
    · have hE : ackE e b l.length x k = 11 := by unfold ackE; rw [hm, if_neg hx]; rfl
      have HE : Hid (∀ w', Below w.heap.size w w' → SndP w (ackE e b l.length x k) e (ackB b k) (ackL b k l) (.returned (.tuple #[.agg #[.int .i64 0, .int .i64 0, .slice none 0 0], .int .i64 11])) w') := fun w' hw => by rw [hE]; exact SndP.no (by decide) hw
      generalize SndP w (ackE e b l.length x k) e (ackB b k) (ackL b k l) = P at *
      have dx : (x != e) = true := by simpa using hx
      clear hE hm
      go_enter Try.func13, Try.ntmps13
      go_upto_region 1 with fail
      obtain ⟨Q0, M0, T0, B0, s1, s2⟩ := boxes3 w #[.int .i64 e, .int .i64 b, .slice a l.length cap] #[.int .i64 x, .int .i64 k] #[.int .i64 0, .int .i64 0, .slice none 0 0] 27 46 27 _ rfl
      generalize ((w.alloc (.cells #[.int .i64 e, .int .i64 b, .slice a l.length cap] 27)).alloc (.cells #[.int .i64 x, .int .i64 k] 46)).alloc (.cells #[.int .i64 0, .int .i64 0, .slice none 0 0] 27) = W0 at *
      have T1 : Hid (BX 27 W0 (w.heap.size + 2) #[.int .i64 0, .int .i64 0, .slice none 0 0]) := T0
      have BH : Hid (Below w.heap.size w W0) := B0
      obtain ⟨q0, q1, q2, _⟩ := Q0.all3
      obtain ⟨m0, m1, _⟩ := M0.all2
      have Q1 : Hid (BX 27 W0 w.heap.size #[.int .i64 e, .int .i64 b, .slice a l.length cap]) := Q0
      have M1 : Hid (BX 46 W0 (w.heap.size + 1) #[.int .i64 x, .int .i64 k]) := M0
      clear Q0 M0 T0 B0
      go_wp2_with fail
      refine (C1 _).mono ?_
      rintro E w1 ⟨rfl, hb1⟩
      obtain ⟨q0, q1, q2, _⟩ := (Q1.out.below hb1 (by omega)).all3
      obtain ⟨m0, m1, _⟩ := (M1.out.below hb1 (by omega)).all2
      have T2 : Hid (BX 27 w1 (w.heap.size + 2) #[.int .i64 0, .int .i64 0, .slice none 0 0]) := T1.out.below hb1 (by omega)
      have HX : Hid (P (.returned (.tuple #[.agg #[.int .i64 0, .int .i64 0, .slice none 0 0], .int .i64 11])) (put3 w1 (w.heap.size + 2) (.int .i64 0) (.int .i64 0) (.slice none 0 0))) := HE.out _ (below_put3 (BH.out.trans (hb1.mono (by omega))) (by omega) _ _ _)
      have RX : Hid (BX 27 (put3 w1 (w.heap.size + 2) (.int .i64 0) (.int .i64 0) (.slice none 0 0)) (w.heap.size + 2) #[.int .i64 0, .int .i64 0, .slice none 0 0]) := T2.out.put3 _ _ _
      obtain ⟨t0, t1, t2, t3, t4, t5⟩ := T2.out.all3
      clear hb1
      go_wp2_with fail
      obtain ⟨r0, r1, r2, _⟩ := RX.out.all3
      unfold put3 at r0 r1 r2
      exact bodyPost_ret (v := .tuple #[.agg #[.int .i64 0, .int .i64 0, .slice none 0 0], .int .i64 11]) (by simp [results, Try.results13, go_sem, r0, r1, r2]) rfl HX.out
end Go.Proofs.Ytjmjpmnjibdhhab
